/-
  The walk of PointRules.
-/
import Derived.Test.YtdpafemcpbhlfaaDoorPt5
namespace Go.Proofs.YtdpafemcpbhlfaaDoor
set_option maxRecDepth 100000
open Go.RowKit

set_option maxHeartbeats 4000000 in
theorem prulesT {a b : List Int} {n : Int} (w : World) (hT : Tw w) (ha : a.length = 32) (da : Digs 256 a) (hb : b.length = 32) (db : Digs 256 b) (hn : 0 ≤ n ∧ n < 256) (hq : edEq (eB.times (expo a)) (eB.times (expo b)) = true) :
    Calls Tryd.prog 11 #[.agg (numsA .u8 a), .agg (numsA .u8 b), .int .u8 n] w fun e w' => e = .returned (.bool (edEq ((eB.times (expo a)).times ((n % 20).toNat)) ((eB.times (expo a)).times (expo ((n % 20) :: List.replicate 31 0))))) ∧ Upd (fun _ => False) w w' := by
  have HT := Lib.hid hT
  clear hT
  have HU := Lib.hid (Upd.refl (fun _ => False) w)
  go_enter Tryd.func11, Tryd.ntmps11
  refine wp_seq_k fun K0 hK0 => ?_
  refine wp_region_qS 3 #[true, true, true] [] ([.blk ptrTo 23 (fun z => z = numsA .u8 a), .blk ptrTo 23 (fun z => z = numsA .u8 b), .val (.bool false)] : List SQ) (by kernel_rfl) (by kernel_rfl) (by kernel_rfl) ?_ ?_
  · intro i o listed an wn ho hls hst hun hdep hI hpre K' hK'
    have hi : i = 0 ∨ i = 1 ∨ i = 2 ∨ False := slot_cases (l := [0, 1, 2]) rfl ho hst
    rcases hi with rfl | rfl | rfl | hi
    · obtain rfl := Option.some.inj ho
      have hvp : an.eval (.tmp 0) = .agg (numsA .u8 a) := hI.oldQ (by kernel_rfl) rfl
      exact hI.newQ (by kernel_rfl) hls (Nat.le_refl _) (newsQ_spec (l := [0, 1]) (by kernel_rfl) ⟨⟨_, _, rfl⟩, ⟨_, _, rfl⟩, trivial⟩) rfl rfl rfl 23 _ (fun z => z = numsA .u8 a) (run_boxQ rfl hvp wn) rfl rfl hK'
    · obtain rfl := Option.some.inj ho
      have hvp : an.eval (.tmp 1) = .agg (numsA .u8 b) := hI.oldQ (by kernel_rfl) rfl
      exact hI.newQ (by kernel_rfl) hls (Nat.le_refl _) (newsQ_spec (l := [0, 1]) (by kernel_rfl) ⟨⟨_, _, rfl⟩, ⟨_, _, rfl⟩, trivial⟩) rfl rfl rfl 23 _ (fun z => z = numsA .u8 b) (run_boxQ rfl hvp wn) rfl rfl hK'
    · obtain rfl := Option.some.inj ho
      exact hI.pureQ (by kernel_rfl) hls rfl rfl rfl (.bool false) (run_moveQ (.inr rfl) (show an.eval (.const (.bool false)) = .bool false from rfl) wn) (.val (.bool false)) rfl rfl rfl hK'
    · exact hi.elim
  · intro an w1 hI
    obtain ⟨vr0_0, hvr0_0, br0_0, zr0_0, rfl, hnr0_0, hbr0_0, hzr0_0⟩ := hI.haveQ 0 _ 3 (.blk ptrTo 23 (fun z => z = numsA .u8 a)) rfl rfl rfl rfl
    rw [hzr0_0] at hbr0_0
    clear hzr0_0
    obtain ⟨vr0_1, hvr0_1, br0_1, zr0_1, rfl, hnr0_1, hbr0_1, hzr0_1⟩ := hI.haveQ 1 _ 4 (.blk ptrTo 23 (fun z => z = numsA .u8 b)) rfl rfl rfl rfl
    rw [hzr0_1] at hbr0_1
    clear hzr0_1
    obtain ⟨vr0_2, hvr0_2, hsr0_2⟩ := hI.haveQ 2 _ 6 (.val (.bool false)) rfl rfl rfl rfl
    obtain rfl := hsr0_2
    have hupd := hI.upd
    have hner0_0_r0_1 := Lib.hid (show br0_0 ≠ br0_1 from fun e => hI.apart 0 1 _ _ 3 4 (by omega) rfl rfl rfl rfl rfl rfl rfl rfl (by rw [hvr0_0, hvr0_1, e]))
    have ha := hI.act [(3, ptrTo br0_0), (4, ptrTo br0_1), (6, .bool false)] (by simp [hvr0_0, hvr0_1, hvr0_2]) (by kernel_rfl)
    clear hI hvr0_0 hvr0_1 hvr0_2
    subst ha
    simp only [List.foldl_cons, List.foldl_nil, List.setIfInBounds_toArray, List.set_cons_zero, List.set_cons_succ]
    have hger0_0 := Lib.hid (Nat.le_trans HU.out.size hnr0_0)
    have hger0_1 := Lib.hid (Nat.le_trans HU.out.size hnr0_1)
    have Bxr0y0 := Lib.hid hbr0_0
    have Bxr0y1 := Lib.hid hbr0_1
    have HU0 := Lib.hid (HU.out.trans hupd)
    clear hupd
    refine wpOps_nil ?_
    refine hK0 _ _ ?_
    clear hK0
    refine wp_seq_k fun K1 hK1 => ?_
    refine wp_seq_k fun K2 hK2 => ?_
    refine wp_region_qS 2 #[true, true] [] ([.val (.bool true), .val (.bool false)] : List SQ) (by kernel_rfl) (by kernel_rfl) (by kernel_rfl) ?_ ?_
    · intro i o listed an wn ho hls hst hun hdep hI hpre K' hK'
      have hi : i = 0 ∨ i = 1 ∨ False := slot_cases (l := [0, 1]) rfl ho hst
      rcases hi with rfl | rfl | hi
      · obtain rfl := Option.some.inj ho
        exact hI.callQ (by kernel_rfl) hls rfl rfl rfl 23 #[] _ rfl #[] (by simp) (run_enter Tryd.func23 (by kernel_rfl) (by kernel_rfl)) (.val (.bool true)) rfl rfl ((basedL _ (HT.out.upd (HU0.out.trans hI.upd))).mono fun _ _ h => ret_val h) hK'
      · obtain rfl := Option.some.inj ho
        obtain ⟨vp, hvp, hsp⟩ := hI.haveQ 0 _ 12 (.val (.bool true)) rfl rfl rfl (hdep ⟨0, .data⟩ (by simp) rfl)
        obtain rfl := hsp
        exact hI.pureQ (by kernel_rfl) hls rfl rfl rfl (.bool false) (run_not rfl (eval_of hvp) wn) (.val (.bool false)) rfl rfl rfl hK'
      · exact hi.elim
    · intro an w2 hI
      obtain ⟨vr1_0, hvr1_0, hsr1_0⟩ := hI.haveQ 0 _ 12 (.val (.bool true)) rfl rfl rfl rfl
      obtain rfl := hsr1_0
      obtain ⟨vr1_1, hvr1_1, hsr1_1⟩ := hI.haveQ 1 _ 13 (.val (.bool false)) rfl rfl rfl rfl
      obtain rfl := hsr1_1
      have hupd := hI.upd
      have ha := hI.act [(12, .bool true), (13, .bool false)] (by simp [hvr1_0, hvr1_1]) (by kernel_rfl)
      clear hI hvr1_0 hvr1_1
      subst ha
      simp only [List.foldl_cons, List.foldl_nil, List.setIfInBounds_toArray, List.set_cons_zero, List.set_cons_succ]
      have Bxr0y0_1 := Lib.hid (hupd.blk (show Blk w1 br0_0 23 (numsA .u8 a) from Bxr0y0.out) (fun h => h))
      have Bxr0y1_1 := Lib.hid (hupd.blk (show Blk w1 br0_1 23 (numsA .u8 b) from Bxr0y1.out) (fun h => h))
      have HU1 := Lib.hid (HU0.out.trans hupd)
      clear hupd
      refine wpOps_nil ?_
      refine hK2 _ _ ?_
      clear hK2
      refine wp_cond_false rfl ?_
      refine wp_skip ?_
      refine hK1 _ _ ?_
      clear hK1
      refine wp_seq_k fun K3 hK3 => ?_
      refine wp_region_q #[true, true, true, true, true, true, true, true, false, false] ([.like (IsC 20 RP [some eB]), .val (.agg (numsA .u8 a)), .like (IsC 20 RP [some (eB.times (expo a))]), .like (IsC 20 RP [some eB]), .val (.agg (numsA .u8 b)), .like (IsC 20 RP [some (eB.times (expo b))]), .blk ptrTo 41 (Ch 20 RP [none]), .blk ptrTo 41 (Ch 20 RP [none]), .val undef, .val undef] : List SQ) (by kernel_rfl) (by kernel_rfl) (by kernel_rfl) ?_ ?_
      · intro i o listed an wn ho hls hst hun hdep hI K' hK'
        have hi : i = 0 ∨ i = 1 ∨ i = 2 ∨ i = 3 ∨ i = 4 ∨ i = 5 ∨ i = 6 ∨ i = 7 ∨ False := slot_cases (l := [0, 1, 2, 3, 4, 5, 6, 7]) rfl ho hst
        rcases hi with rfl | rfl | rfl | rfl | rfl | rfl | rfl | rfl | hi
        · obtain rfl := Option.some.inj ho
          exact hI.callQ (by kernel_rfl) hls rfl rfl rfl 34 #[] _ rfl #[] (by simp) (run_enter Tryd.func34 (by kernel_rfl) (by kernel_rfl)) (.like (IsC 20 RP [some eB])) rfl rfl ((baseR _ ).mono fun _ _ h => h.sq) hK'
        · obtain rfl := Option.some.inj ho
          have hvp : an.eval (.tmp 3) = ptrTo br0_0 := hI.oldQ (by kernel_rfl) rfl
          exact hI.pureQ (by kernel_rfl) hls rfl rfl rfl _ (run_loadQ rfl hvp wn (hI.upd.blk (show Blk w2.drew br0_0 23 (numsA .u8 a) from Bxr0y0_1.out) (fun h => h)) Tryd.underlying23 rfl sizeKey (by rw [numsA_size, ha]; omega)) (.val (.agg (numsA .u8 a))) rfl (congrArg Value.agg (extract_all _ 32 (by rw [numsA_size]; exact ha))) rfl hK'
        · obtain rfl := Option.some.inj ho
          obtain ⟨vp, hvp, ap, rfl, hCp⟩ := hI.haveQ 0 _ 14 (.like (IsC 20 RP [some eB])) rfl rfl rfl (hdep ⟨0, .data⟩ (by simp) rfl)
          obtain ⟨vq, hvq, hsq⟩ := hI.haveQ 1 _ 15 (.val (.agg (numsA .u8 a))) rfl rfl rfl (hdep ⟨1, .data⟩ (by simp) rfl)
          obtain rfl := hsq
          exact hI.callQ (by kernel_rfl) hls rfl rfl rfl 36 #[.tmp 14, .tmp 15] _ rfl #[.agg ap, .agg (numsA .u8 a)] (by simp [eval_of hvp, eval_of hvq]) (run_enter Tryd.func36 (by kernel_rfl) (by kernel_rfl)) (.like (IsC 20 RP [some (eB.times (expo a))])) rfl rfl ((multiplyR _ (HT.out.upd (HU1.out.drew.trans hI.upd)) hCp ha da).mono fun _ _ h => h.sq) hK'
        · obtain rfl := Option.some.inj ho
          exact hI.callQ (by kernel_rfl) hls rfl rfl rfl 34 #[] _ rfl #[] (by simp) (run_enter Tryd.func34 (by kernel_rfl) (by kernel_rfl)) (.like (IsC 20 RP [some eB])) rfl rfl ((baseR _ ).mono fun _ _ h => h.sq) hK'
        · obtain rfl := Option.some.inj ho
          have hvp : an.eval (.tmp 4) = ptrTo br0_1 := hI.oldQ (by kernel_rfl) rfl
          exact hI.pureQ (by kernel_rfl) hls rfl rfl rfl _ (run_loadQ rfl hvp wn (hI.upd.blk (show Blk w2.drew br0_1 23 (numsA .u8 b) from Bxr0y1_1.out) (fun h => h)) Tryd.underlying23 rfl sizeKey (by rw [numsA_size, hb]; omega)) (.val (.agg (numsA .u8 b))) rfl (congrArg Value.agg (extract_all _ 32 (by rw [numsA_size]; exact hb))) rfl hK'
        · obtain rfl := Option.some.inj ho
          obtain ⟨vp, hvp, ap, rfl, hCp⟩ := hI.haveQ 3 _ 17 (.like (IsC 20 RP [some eB])) rfl rfl rfl (hdep ⟨3, .data⟩ (by simp) rfl)
          obtain ⟨vq, hvq, hsq⟩ := hI.haveQ 4 _ 18 (.val (.agg (numsA .u8 b))) rfl rfl rfl (hdep ⟨4, .data⟩ (by simp) rfl)
          obtain rfl := hsq
          exact hI.callQ (by kernel_rfl) hls rfl rfl rfl 36 #[.tmp 17, .tmp 18] _ rfl #[.agg ap, .agg (numsA .u8 b)] (by simp [eval_of hvp, eval_of hvq]) (run_enter Tryd.func36 (by kernel_rfl) (by kernel_rfl)) (.like (IsC 20 RP [some (eB.times (expo b))])) rfl rfl ((multiplyR _ (HT.out.upd (HU1.out.drew.trans hI.upd)) hCp hb db).mono fun _ _ h => h.sq) hK'
        · obtain rfl := Option.some.inj ho
          exact hI.newQ (by kernel_rfl) hls (Nat.le_refl _) (newsQ_spec (l := [6, 7]) (by kernel_rfl) ⟨⟨_, _, rfl⟩, ⟨_, _, rfl⟩, trivial⟩) rfl rfl rfl 41 zPt _ (run_allocQ rfl zPt_run wn) rfl zPt_p hK'
        · obtain rfl := Option.some.inj ho
          exact hI.newQ (by kernel_rfl) hls (Nat.le_refl _) (newsQ_spec (l := [6, 7]) (by kernel_rfl) ⟨⟨_, _, rfl⟩, ⟨_, _, rfl⟩, trivial⟩) rfl rfl rfl 41 zPt _ (run_allocQ rfl zPt_run wn) rfl zPt_p hK'
        · exact hi.elim
      · intro fuel an w3 hf hI
        obtain ⟨vr2_0, hvr2_0, ar2_0, rfl, hCr2_0⟩ := hI.haveQ 0 _ 14 (.like (IsC 20 RP [some eB])) rfl rfl rfl rfl
        obtain ⟨vr2_1, hvr2_1, hsr2_1⟩ := hI.haveQ 1 _ 15 (.val (.agg (numsA .u8 a))) rfl rfl rfl rfl
        obtain rfl := hsr2_1
        obtain ⟨vr2_2, hvr2_2, ar2_2, rfl, hCr2_2⟩ := hI.haveQ 2 _ 16 (.like (IsC 20 RP [some (eB.times (expo a))])) rfl rfl rfl rfl
        obtain ⟨vr2_3, hvr2_3, ar2_3, rfl, hCr2_3⟩ := hI.haveQ 3 _ 17 (.like (IsC 20 RP [some eB])) rfl rfl rfl rfl
        obtain ⟨vr2_4, hvr2_4, hsr2_4⟩ := hI.haveQ 4 _ 18 (.val (.agg (numsA .u8 b))) rfl rfl rfl rfl
        obtain rfl := hsr2_4
        obtain ⟨vr2_5, hvr2_5, ar2_5, rfl, hCr2_5⟩ := hI.haveQ 5 _ 19 (.like (IsC 20 RP [some (eB.times (expo b))])) rfl rfl rfl rfl
        obtain ⟨vr2_6, hvr2_6, br2_6, zr2_6, rfl, hnr2_6, hbr2_6, hzr2_6⟩ := hI.haveQ 6 _ 7 (.blk ptrTo 41 (Ch 20 RP [none])) rfl rfl rfl rfl
        obtain ⟨vr2_7, hvr2_7, br2_7, zr2_7, rfl, hnr2_7, hbr2_7, hzr2_7⟩ := hI.haveQ 7 _ 8 (.blk ptrTo 41 (Ch 20 RP [none])) rfl rfl rfl rfl
        have hupd := hI.upd
        have hner2_6_r2_7 := Lib.hid (show br2_6 ≠ br2_7 from fun e => hI.apart 6 7 _ _ 7 8 (by omega) rfl rfl rfl rfl rfl rfl rfl rfl (by rw [hvr2_6, hvr2_7, e]))
        have ha := hI.act [(14, .agg ar2_0), (15, .agg (numsA .u8 a)), (16, .agg ar2_2), (17, .agg ar2_3), (18, .agg (numsA .u8 b)), (19, .agg ar2_5), (7, ptrTo br2_6), (8, ptrTo br2_7)] (by simp [hvr2_0, hvr2_1, hvr2_2, hvr2_3, hvr2_4, hvr2_5, hvr2_6, hvr2_7]) (by kernel_rfl)
        clear hI hvr2_0 hvr2_1 hvr2_2 hvr2_3 hvr2_4 hvr2_5 hvr2_6 hvr2_7
        subst ha
        simp only [List.foldl_cons, List.foldl_nil, List.setIfInBounds_toArray, List.set_cons_zero, List.set_cons_succ]
        have hner2_6_Bxr0y0_1 := Lib.hid (show br2_6 ≠ br0_0 from Nat.ne_of_gt (Nat.lt_of_lt_of_le Bxr0y0_1.out.lt hnr2_6))
        have hner2_6_Bxr0y1_1 := Lib.hid (show br2_6 ≠ br0_1 from Nat.ne_of_gt (Nat.lt_of_lt_of_le Bxr0y1_1.out.lt hnr2_6))
        have hger2_6 := Lib.hid (Nat.le_trans HU1.out.size hnr2_6)
        have hner2_7_Bxr0y0_1 := Lib.hid (show br2_7 ≠ br0_0 from Nat.ne_of_gt (Nat.lt_of_lt_of_le Bxr0y0_1.out.lt hnr2_7))
        have hner2_7_Bxr0y1_1 := Lib.hid (show br2_7 ≠ br0_1 from Nat.ne_of_gt (Nat.lt_of_lt_of_le Bxr0y1_1.out.lt hnr2_7))
        have hger2_7 := Lib.hid (Nat.le_trans HU1.out.size hnr2_7)
        have Bxr0y0_2 := Lib.hid (hupd.blk (show Blk w2.drew br0_0 23 (numsA .u8 a) from Bxr0y0_1.out) (fun h => h))
        have Bxr0y1_2 := Lib.hid (hupd.blk (show Blk w2.drew br0_1 23 (numsA .u8 b) from Bxr0y1_1.out) (fun h => h))
        have Bxr2y6 := Lib.hid hbr2_6
        have Bxr2y7 := Lib.hid hbr2_7
        have HU2 := Lib.hid (HU1.out.drew.trans hupd)
        clear hupd
        have hf0 : left #[true, true, true, true, true, true, true, true, false, false] 10 = 2 := by kernel_rfl
        have hf1 : left #[true, true, true, true, true, true, true, true, false, false] 10 ≤ fuel := hf
        obtain ⟨fu, rfl⟩ : ∃ fu, fuel = fu + 2 := ⟨fuel - 2, by omega⟩
        clear hf hf0 hf1
        refine wpAny_storeQ 8 rfl (by kernel_rfl) rfl rfl 41 (.tmp 7) (.tmp 16) rfl br2_6 0 20 rfl ar2_2 rfl 41 zr2_6 Bxr2y6.out szPt hCr2_2.size (by rw [hzr2_6.size]; exact Nat.le_of_ble_eq_true rfl) hCr2_2.one' ?_
        intro ws2_0 hs2_0 hus2_0
        rw [splice_all _ _ 20 hzr2_6.size hCr2_2.size] at hs2_0
        have Bxr0y0_s2_0 := Lib.hid (hus2_0.blk Bxr0y0_2.out (fun e => hner2_6_Bxr0y0_1.out e.symm))
        have Bxr0y1_s2_0 := Lib.hid (hus2_0.blk Bxr0y1_2.out (fun e => hner2_6_Bxr0y1_1.out e.symm))
        have Bxr2y7_s2_0 := Lib.hid (hus2_0.blk Bxr2y7.out (fun e => hner2_6_r2_7.out e.symm))
        have Bxr2y6_s2_0 := Lib.hid hs2_0
        have HU2_0 := Lib.hid (HU2.out.step hus2_0 (fun i hi h => absurd hi (Nat.not_lt.2 (h.symm ▸ hger2_6.out))))
        clear hs2_0 hus2_0
        refine wpAny_storeQ 9 rfl (by kernel_rfl) rfl rfl 41 (.tmp 8) (.tmp 19) rfl br2_7 0 20 rfl ar2_5 rfl 41 zr2_7 Bxr2y7_s2_0.out szPt hCr2_5.size (by rw [hzr2_7.size]; exact Nat.le_of_ble_eq_true rfl) hCr2_5.one' ?_
        intro ws2_1 hs2_1 hus2_1
        rw [splice_all _ _ 20 hzr2_7.size hCr2_5.size] at hs2_1
        have Bxr0y0_s2_1 := Lib.hid (hus2_1.blk Bxr0y0_s2_0.out (fun e => hner2_7_Bxr0y0_1.out e.symm))
        have Bxr0y1_s2_1 := Lib.hid (hus2_1.blk Bxr0y1_s2_0.out (fun e => hner2_7_Bxr0y1_1.out e.symm))
        have Bxr2y6_s2_1 := Lib.hid (hus2_1.blk Bxr2y6_s2_0.out (fun e => hner2_6_r2_7.out e))
        have Bxr2y7_s2_1 := Lib.hid hs2_1
        have HU2_1 := Lib.hid (HU2_0.out.step hus2_1 (fun i hi h => absurd hi (Nat.not_lt.2 (h.symm ▸ hger2_7.out))))
        clear hs2_1 hus2_1
        refine wpAny_done (by kernel_rfl) ?_ _
        refine hK3 _ _ ?_
        clear hK3
        refine wp_seq_k fun K4 hK4 => ?_
        refine wp_region_qS 5 #[true, true, true, true, true, false] [5] ([.val (.agg ar2_2), .val (.agg ar2_5), .blk (fun b => .slice (some ⟨b, 0, none⟩) 2 2) 41 (Ch 20 RP [some (eB.times (expo a)), some (eB.times (expo b))]), .like (IsC 20 RP [some ((eB.times (expo a)).plus (eB.times (expo b)))]), .blk ptrTo 41 (Ch 20 RP [none]), .val undef] : List SQ) (by kernel_rfl) (by kernel_rfl) (by kernel_rfl) ?_ ?_
        · intro i o listed an wn ho hls hst hun hdep hI hpre K' hK'
          have hi : i = 0 ∨ i = 1 ∨ i = 2 ∨ i = 3 ∨ i = 4 ∨ False := slot_cases (l := [0, 1, 2, 3, 4]) rfl ho hst
          rcases hi with rfl | rfl | rfl | rfl | rfl | hi
          · obtain rfl := Option.some.inj ho
            have hvp : an.eval (.tmp 7) = ptrTo br2_6 := hI.oldQ (by kernel_rfl) rfl
            exact hI.pureQ (by kernel_rfl) hls rfl rfl rfl _ (run_loadQ rfl hvp wn (hI.upd.blk (show Blk ws2_1 br2_6 41 ar2_2 from Bxr2y6_s2_1.out) (fun h => h)) Tryd.underlying41 rfl szPt (by rw [hCr2_2.size]; exact Nat.le_of_ble_eq_true rfl)) (.val (.agg ar2_2)) rfl (congrArg Value.agg (extract_all _ 20 hCr2_2.size)) rfl hK'
          · obtain rfl := Option.some.inj ho
            have hvp : an.eval (.tmp 8) = ptrTo br2_7 := hI.oldQ (by kernel_rfl) rfl
            exact hI.pureQ (by kernel_rfl) hls rfl rfl rfl _ (run_loadQ rfl hvp wn (hI.upd.blk (show Blk ws2_1 br2_7 41 ar2_5 from Bxr2y7_s2_1.out) (fun h => h)) Tryd.underlying41 rfl szPt (by rw [hCr2_5.size]; exact Nat.le_of_ble_eq_true rfl)) (.val (.agg ar2_5)) rfl (congrArg Value.agg (extract_all _ 20 hCr2_5.size)) rfl hK'
          · obtain rfl := Option.some.inj ho
            obtain ⟨vp, hvp, hsp⟩ := hI.haveQ 0 _ 20 (.val (.agg ar2_2)) rfl rfl rfl (hdep ⟨0, .data⟩ (by simp) rfl)
            obtain rfl := hsp
            obtain ⟨vq, hvq, hsq⟩ := hI.haveQ 1 _ 21 (.val (.agg ar2_5)) rfl rfl rfl (hdep ⟨1, .data⟩ (by simp) rfl)
            obtain rfl := hsq
            exact hI.rowQ (by kernel_rfl) hls (Nat.le_refl _) rfl rfl rfl _ _ _ _ (run_pts2 rfl (eval_of hvp) (eval_of hvq) hCr2_2.size hCr2_5.size wn) rfl (hCr2_2.cat hCr2_5) rfl hK'
          · obtain rfl := Option.some.inj ho
            obtain ⟨vp, hvp, bp, zp, rfl, hnp, hbp, hzp⟩ := hI.haveQ 2 _ 22 (.blk (fun b => .slice (some ⟨b, 0, none⟩) 2 2) 41 (Ch 20 RP [some (eB.times (expo a)), some (eB.times (expo b))])) rfl rfl rfl (hdep ⟨2, .data⟩ (by simp) rfl)
            exact hI.callQ (by kernel_rfl) hls rfl rfl rfl 28 #[.tmp 22] _ rfl #[.slice (some ⟨bp, 0, none⟩) 2 2] (by simp [eval_of hvp]) (run_enter Tryd.func28 (by kernel_rfl) (by kernel_rfl)) (.like (IsC 20 RP [some ((eB.times (expo a)).plus (eB.times (expo b)))])) rfl rfl ((addR2 _ (HT.out.upd (HU2_1.out.trans hI.upd)) hbp hzp).mono fun _ _ h => h.sq) hK'
          · obtain rfl := Option.some.inj ho
            exact hI.newQ (by kernel_rfl) hls (Nat.le_refl _) (newsQ_spec (l := [4]) (by kernel_rfl) ⟨⟨_, _, rfl⟩, trivial⟩) rfl rfl rfl 41 zPt _ (run_allocQ rfl zPt_run wn) rfl zPt_p hK'
          · exact hi.elim
        · intro an w4 hI
          obtain ⟨vr3_0, hvr3_0, hsr3_0⟩ := hI.haveQ 0 _ 20 (.val (.agg ar2_2)) rfl rfl rfl rfl
          obtain rfl := hsr3_0
          obtain ⟨vr3_1, hvr3_1, hsr3_1⟩ := hI.haveQ 1 _ 21 (.val (.agg ar2_5)) rfl rfl rfl rfl
          obtain rfl := hsr3_1
          obtain ⟨vr3_2, hvr3_2, br3_2, zr3_2, rfl, hnr3_2, hbr3_2, hzr3_2⟩ := hI.haveQ 2 _ 22 (.blk (fun b => .slice (some ⟨b, 0, none⟩) 2 2) 41 (Ch 20 RP [some (eB.times (expo a)), some (eB.times (expo b))])) rfl rfl rfl rfl
          obtain ⟨vr3_3, hvr3_3, ar3_3, rfl, hCr3_3⟩ := hI.haveQ 3 _ 23 (.like (IsC 20 RP [some ((eB.times (expo a)).plus (eB.times (expo b)))])) rfl rfl rfl rfl
          obtain ⟨vr3_4, hvr3_4, br3_4, zr3_4, rfl, hnr3_4, hbr3_4, hzr3_4⟩ := hI.haveQ 4 _ 9 (.blk ptrTo 41 (Ch 20 RP [none])) rfl rfl rfl rfl
          have hupd := hI.upd
          have ha := hI.act [(20, .agg ar2_2), (21, .agg ar2_5), (22, .slice (some ⟨br3_2, 0, none⟩) 2 2), (23, .agg ar3_3), (9, ptrTo br3_4)] (by simp [hvr3_0, hvr3_1, hvr3_2, hvr3_3, hvr3_4]) (by kernel_rfl)
          clear hI hvr3_0 hvr3_1 hvr3_2 hvr3_3 hvr3_4
          subst ha
          simp only [List.foldl_cons, List.foldl_nil, List.setIfInBounds_toArray, List.set_cons_zero, List.set_cons_succ]
          have hner3_4_Bxr0y0_s2_1 := Lib.hid (show br3_4 ≠ br0_0 from Nat.ne_of_gt (Nat.lt_of_lt_of_le Bxr0y0_s2_1.out.lt hnr3_4))
          have hner3_4_Bxr0y1_s2_1 := Lib.hid (show br3_4 ≠ br0_1 from Nat.ne_of_gt (Nat.lt_of_lt_of_le Bxr0y1_s2_1.out.lt hnr3_4))
          have hner3_4_Bxr2y6_s2_1 := Lib.hid (show br3_4 ≠ br2_6 from Nat.ne_of_gt (Nat.lt_of_lt_of_le Bxr2y6_s2_1.out.lt hnr3_4))
          have hner3_4_Bxr2y7_s2_1 := Lib.hid (show br3_4 ≠ br2_7 from Nat.ne_of_gt (Nat.lt_of_lt_of_le Bxr2y7_s2_1.out.lt hnr3_4))
          have hger3_4 := Lib.hid (Nat.le_trans HU2_1.out.size hnr3_4)
          have Bxr0y0_3 := Lib.hid (hupd.blk (show Blk ws2_1 br0_0 23 (numsA .u8 a) from Bxr0y0_s2_1.out) (fun h => h))
          have Bxr0y1_3 := Lib.hid (hupd.blk (show Blk ws2_1 br0_1 23 (numsA .u8 b) from Bxr0y1_s2_1.out) (fun h => h))
          have Bxr2y6_3 := Lib.hid (hupd.blk (show Blk ws2_1 br2_6 41 ar2_2 from Bxr2y6_s2_1.out) (fun h => h))
          have Bxr2y7_3 := Lib.hid (hupd.blk (show Blk ws2_1 br2_7 41 ar2_5 from Bxr2y7_s2_1.out) (fun h => h))
          have Bxr3y4 := Lib.hid hbr3_4
          have HU3 := Lib.hid (HU2_1.out.trans hupd)
          clear hupd
          refine wpOps_storeQ 5 rfl rfl rfl 41 (.tmp 9) (.tmp 23) rfl br3_4 0 20 rfl ar3_3 rfl 41 zr3_4 Bxr3y4.out szPt hCr3_3.size (by rw [hzr3_4.size]; exact Nat.le_of_ble_eq_true rfl) hCr3_3.one' ?_
          intro ws3_0 hs3_0 hus3_0
          rw [splice_all _ _ 20 hzr3_4.size hCr3_3.size] at hs3_0
          have Bxr0y0_s3_0 := Lib.hid (hus3_0.blk Bxr0y0_3.out (fun e => hner3_4_Bxr0y0_s2_1.out e.symm))
          have Bxr0y1_s3_0 := Lib.hid (hus3_0.blk Bxr0y1_3.out (fun e => hner3_4_Bxr0y1_s2_1.out e.symm))
          have Bxr2y6_s3_0 := Lib.hid (hus3_0.blk Bxr2y6_3.out (fun e => hner3_4_Bxr2y6_s2_1.out e.symm))
          have Bxr2y7_s3_0 := Lib.hid (hus3_0.blk Bxr2y7_3.out (fun e => hner3_4_Bxr2y7_s2_1.out e.symm))
          have Bxr3y4_s3_0 := Lib.hid hs3_0
          have HU3_0 := Lib.hid (HU3.out.step hus3_0 (fun i hi h => absurd hi (Nat.not_lt.2 (h.symm ▸ hger3_4.out))))
          clear hs3_0 hus3_0
          refine wpOps_nil ?_
          refine hK4 _ _ ?_
          clear hK4
          refine wp_seq_k fun K5 hK5 => ?_
          refine wp_seq_k fun K6 hK6 => ?_
          refine wp_region_q #[true, true, true, true, true, true, true, true, true, true, true, true, true, true, true, true, true, true, true, true, true, true, true, true, true, true, true, true, true, true, true, true, true, true, true, true] ([.val (.agg ar3_3), .val (.agg ar2_5), .val (.agg ar2_2), .blk (fun b => .slice (some ⟨b, 0, none⟩) 2 2) 41 (Ch 20 RP [some (eB.times (expo b)), some (eB.times (expo a))]), .like (IsC 20 RP [some ((eB.times (expo b)).plus (eB.times (expo a)))]), .val (.bool true), .val (.bool false), .val (.bool false), .val (.agg ar2_2), .val (.agg ar2_5), .blk (fun b => .slice (some ⟨b, 0, none⟩) 2 2) 41 (Ch 20 RP [some (eB.times (expo a)), some (eB.times (expo b))]), .like (IsC 20 RP [some ((eB.times (expo a)).plus (eB.times (expo b)))]), .val (.agg ar2_2), .blk (fun b => .slice (some ⟨b, 0, none⟩) 2 2) 41 (Ch 20 RP [some ((eB.times (expo a)).plus (eB.times (expo b))), some (eB.times (expo a))]), .like (IsC 20 RP [some (((eB.times (expo a)).plus (eB.times (expo b))).plus (eB.times (expo a)))]), .val (.agg ar2_2), .val (.agg ar2_5), .val (.agg ar2_2), .blk (fun b => .slice (some ⟨b, 0, none⟩) 2 2) 41 (Ch 20 RP [some (eB.times (expo b)), some (eB.times (expo a))]), .like (IsC 20 RP [some ((eB.times (expo b)).plus (eB.times (expo a)))]), .blk (fun b => .slice (some ⟨b, 0, none⟩) 2 2) 41 (Ch 20 RP [some (eB.times (expo a)), some ((eB.times (expo b)).plus (eB.times (expo a)))]), .like (IsC 20 RP [some ((eB.times (expo a)).plus ((eB.times (expo b)).plus (eB.times (expo a))))]), .val (.bool true), .val (.bool false), .val (.bool false), .val (.bool false), .val (.agg ar2_2), .val (.agg ar2_5), .val (.bool true), .val (.agg ar2_2), .val (.agg (numsA .u8 (encP (eB.times (expo a))))), .val (.agg ar2_5), .val (.agg (numsA .u8 (encP (eB.times (expo b))))), .val (.bool true), .val (.bool false), .val (.bool false)] : List SQ) (by kernel_rfl) (by kernel_rfl) (by kernel_rfl) ?_ ?_
          · intro i o listed an wn ho hls hst hun hdep hI K' hK'
            have hi : i = 0 ∨ i = 1 ∨ i = 2 ∨ i = 3 ∨ i = 4 ∨ i = 5 ∨ i = 6 ∨ i = 7 ∨ i = 8 ∨ i = 9 ∨ i = 10 ∨ i = 11 ∨ i = 12 ∨ i = 13 ∨ i = 14 ∨ i = 15 ∨ i = 16 ∨ i = 17 ∨ i = 18 ∨ i = 19 ∨ i = 20 ∨ i = 21 ∨ i = 22 ∨ i = 23 ∨ i = 24 ∨ i = 25 ∨ i = 26 ∨ i = 27 ∨ i = 28 ∨ i = 29 ∨ i = 30 ∨ i = 31 ∨ i = 32 ∨ i = 33 ∨ i = 34 ∨ i = 35 ∨ False := slot_cases (l := [0, 1, 2, 3, 4, 5, 6, 7, 8, 9, 10, 11, 12, 13, 14, 15, 16, 17, 18, 19, 20, 21, 22, 23, 24, 25, 26, 27, 28, 29, 30, 31, 32, 33, 34, 35]) rfl ho hst
            rcases hi with rfl | rfl | rfl | rfl | rfl | rfl | rfl | rfl | rfl | rfl | rfl | rfl | rfl | rfl | rfl | rfl | rfl | rfl | rfl | rfl | rfl | rfl | rfl | rfl | rfl | rfl | rfl | rfl | rfl | rfl | rfl | rfl | rfl | rfl | rfl | rfl | hi
            · obtain rfl := Option.some.inj ho
              have hvp : an.eval (.tmp 9) = ptrTo br3_4 := hI.oldQ (by kernel_rfl) rfl
              exact hI.pureQ (by kernel_rfl) hls rfl rfl rfl _ (run_loadQ rfl hvp wn (hI.upd.blk (show Blk ws3_0.drew br3_4 41 ar3_3 from Bxr3y4_s3_0.out) (fun h => h)) Tryd.underlying41 rfl szPt (by rw [hCr3_3.size]; exact Nat.le_of_ble_eq_true rfl)) (.val (.agg ar3_3)) rfl (congrArg Value.agg (extract_all _ 20 hCr3_3.size)) rfl hK'
            · obtain rfl := Option.some.inj ho
              have hvp : an.eval (.tmp 8) = ptrTo br2_7 := hI.oldQ (by kernel_rfl) rfl
              exact hI.pureQ (by kernel_rfl) hls rfl rfl rfl _ (run_loadQ rfl hvp wn (hI.upd.blk (show Blk ws3_0.drew br2_7 41 ar2_5 from Bxr2y7_s3_0.out) (fun h => h)) Tryd.underlying41 rfl szPt (by rw [hCr2_5.size]; exact Nat.le_of_ble_eq_true rfl)) (.val (.agg ar2_5)) rfl (congrArg Value.agg (extract_all _ 20 hCr2_5.size)) rfl hK'
            · obtain rfl := Option.some.inj ho
              have hvp : an.eval (.tmp 7) = ptrTo br2_6 := hI.oldQ (by kernel_rfl) rfl
              exact hI.pureQ (by kernel_rfl) hls rfl rfl rfl _ (run_loadQ rfl hvp wn (hI.upd.blk (show Blk ws3_0.drew br2_6 41 ar2_2 from Bxr2y6_s3_0.out) (fun h => h)) Tryd.underlying41 rfl szPt (by rw [hCr2_2.size]; exact Nat.le_of_ble_eq_true rfl)) (.val (.agg ar2_2)) rfl (congrArg Value.agg (extract_all _ 20 hCr2_2.size)) rfl hK'
            · obtain rfl := Option.some.inj ho
              obtain ⟨vp, hvp, hsp⟩ := hI.haveQ 1 _ 25 (.val (.agg ar2_5)) rfl rfl rfl (hdep ⟨1, .data⟩ (by simp) rfl)
              obtain rfl := hsp
              obtain ⟨vq, hvq, hsq⟩ := hI.haveQ 2 _ 26 (.val (.agg ar2_2)) rfl rfl rfl (hdep ⟨2, .data⟩ (by simp) rfl)
              obtain rfl := hsq
              exact hI.rowQ (by kernel_rfl) hls (Nat.le_refl _) rfl rfl rfl _ _ _ _ (run_pts2 rfl (eval_of hvp) (eval_of hvq) hCr2_5.size hCr2_2.size wn) rfl (hCr2_5.cat hCr2_2) rfl hK'
            · obtain rfl := Option.some.inj ho
              obtain ⟨vp, hvp, bp, zp, rfl, hnp, hbp, hzp⟩ := hI.haveQ 3 _ 27 (.blk (fun b => .slice (some ⟨b, 0, none⟩) 2 2) 41 (Ch 20 RP [some (eB.times (expo b)), some (eB.times (expo a))])) rfl rfl rfl (hdep ⟨3, .data⟩ (by simp) rfl)
              exact hI.callQ (by kernel_rfl) hls rfl rfl rfl 28 #[.tmp 27] _ rfl #[.slice (some ⟨bp, 0, none⟩) 2 2] (by simp [eval_of hvp]) (run_enter Tryd.func28 (by kernel_rfl) (by kernel_rfl)) (.like (IsC 20 RP [some ((eB.times (expo b)).plus (eB.times (expo a)))])) rfl rfl ((addR2 _ (HT.out.upd (HU3_0.out.drew.trans hI.upd)) hbp hzp).mono fun _ _ h => h.sq) hK'
            · obtain rfl := Option.some.inj ho
              obtain ⟨vp, hvp, hsp⟩ := hI.haveQ 0 _ 24 (.val (.agg ar3_3)) rfl rfl rfl (hdep ⟨0, .data⟩ (by simp) rfl)
              obtain rfl := hsp
              obtain ⟨vq, hvq, aq, rfl, hCq⟩ := hI.haveQ 4 _ 28 (.like (IsC 20 RP [some ((eB.times (expo b)).plus (eB.times (expo a)))])) rfl rfl rfl (hdep ⟨4, .data⟩ (by simp) rfl)
              exact hI.callQ (by kernel_rfl) hls rfl rfl rfl 31 #[.tmp 24, .tmp 28] _ rfl #[.agg ar3_3, .agg aq] (by simp [eval_of hvp, eval_of hvq]) (run_enter Tryd.func31 (by kernel_rfl) (by kernel_rfl)) (.val (.bool true)) rfl rfl ((equalR _ hCr3_3 hCq).mono fun _ _ h => ret_val (ret_b h (edEq_t (plus_comm _ _)))) hK'
            · obtain rfl := Option.some.inj ho
              obtain ⟨vp, hvp, hsp⟩ := hI.haveQ 5 _ 29 (.val (.bool true)) rfl rfl rfl (hdep ⟨5, .data⟩ (by simp) rfl)
              obtain rfl := hsp
              exact hI.pureQ (by kernel_rfl) hls rfl rfl rfl (.bool false) (run_not rfl (eval_of hvp) wn) (.val (.bool false)) rfl rfl rfl hK'
            · obtain rfl := Option.some.inj ho
              obtain ⟨vp, hvp, hsp⟩ := hI.haveQ 6 _ 30 (.val (.bool false)) rfl rfl rfl (hdep ⟨6, .data⟩ (by simp) rfl)
              obtain rfl := hsp
              exact hI.pureQ (by kernel_rfl) hls rfl rfl rfl (.bool false) (run_moveQ (.inl rfl) (eval_of hvp) wn) (.val (.bool false)) rfl rfl rfl hK'
            · obtain rfl := Option.some.inj ho
              obtain ⟨vg, hvg, hsg⟩ := hI.haveQ 7 _ 31 (.val (.bool false)) rfl rfl rfl (hdep ⟨7, .guard⟩ (by simp) rfl)
              obtain rfl := hsg
              have hvp : an.eval (.tmp 7) = ptrTo br2_6 := hI.oldQ (by kernel_rfl) rfl
              exact hI.pureQ (by kernel_rfl) hls rfl (wanted_of rfl rfl rfl hvg) rfl _ (run_loadQ rfl hvp wn (hI.upd.blk (show Blk ws3_0.drew br2_6 41 ar2_2 from Bxr2y6_s3_0.out) (fun h => h)) Tryd.underlying41 rfl szPt (by rw [hCr2_2.size]; exact Nat.le_of_ble_eq_true rfl)) (.val (.agg ar2_2)) rfl (congrArg Value.agg (extract_all _ 20 hCr2_2.size)) rfl hK'
            · obtain rfl := Option.some.inj ho
              obtain ⟨vg, hvg, hsg⟩ := hI.haveQ 7 _ 31 (.val (.bool false)) rfl rfl rfl (hdep ⟨7, .guard⟩ (by simp) rfl)
              obtain rfl := hsg
              have hvp : an.eval (.tmp 8) = ptrTo br2_7 := hI.oldQ (by kernel_rfl) rfl
              exact hI.pureQ (by kernel_rfl) hls rfl (wanted_of rfl rfl rfl hvg) rfl _ (run_loadQ rfl hvp wn (hI.upd.blk (show Blk ws3_0.drew br2_7 41 ar2_5 from Bxr2y7_s3_0.out) (fun h => h)) Tryd.underlying41 rfl szPt (by rw [hCr2_5.size]; exact Nat.le_of_ble_eq_true rfl)) (.val (.agg ar2_5)) rfl (congrArg Value.agg (extract_all _ 20 hCr2_5.size)) rfl hK'
            · obtain rfl := Option.some.inj ho
              obtain ⟨vg, hvg, hsg⟩ := hI.haveQ 7 _ 31 (.val (.bool false)) rfl rfl rfl (hdep ⟨7, .guard⟩ (by simp) rfl)
              obtain rfl := hsg
              obtain ⟨vp, hvp, hsp⟩ := hI.haveQ 8 _ 32 (.val (.agg ar2_2)) rfl rfl rfl (hdep ⟨8, .data⟩ (by simp) rfl)
              obtain rfl := hsp
              obtain ⟨vq, hvq, hsq⟩ := hI.haveQ 9 _ 33 (.val (.agg ar2_5)) rfl rfl rfl (hdep ⟨9, .data⟩ (by simp) rfl)
              obtain rfl := hsq
              exact hI.rowQ (by kernel_rfl) hls (Nat.le_refl _) rfl (wanted_of rfl rfl rfl hvg) rfl _ _ _ _ (run_pts2 rfl (eval_of hvp) (eval_of hvq) hCr2_2.size hCr2_5.size wn) rfl (hCr2_2.cat hCr2_5) rfl hK'
            · obtain rfl := Option.some.inj ho
              obtain ⟨vg, hvg, hsg⟩ := hI.haveQ 7 _ 31 (.val (.bool false)) rfl rfl rfl (hdep ⟨7, .guard⟩ (by simp) rfl)
              obtain rfl := hsg
              obtain ⟨vp, hvp, bp, zp, rfl, hnp, hbp, hzp⟩ := hI.haveQ 10 _ 34 (.blk (fun b => .slice (some ⟨b, 0, none⟩) 2 2) 41 (Ch 20 RP [some (eB.times (expo a)), some (eB.times (expo b))])) rfl rfl rfl (hdep ⟨10, .data⟩ (by simp) rfl)
              exact hI.callQ (by kernel_rfl) hls rfl (wanted_of rfl rfl rfl hvg) rfl 28 #[.tmp 34] _ rfl #[.slice (some ⟨bp, 0, none⟩) 2 2] (by simp [eval_of hvp]) (run_enter Tryd.func28 (by kernel_rfl) (by kernel_rfl)) (.like (IsC 20 RP [some ((eB.times (expo a)).plus (eB.times (expo b)))])) rfl rfl ((addR2 _ (HT.out.upd (HU3_0.out.drew.trans hI.upd)) hbp hzp).mono fun _ _ h => h.sq) hK'
            · obtain rfl := Option.some.inj ho
              obtain ⟨vg, hvg, hsg⟩ := hI.haveQ 7 _ 31 (.val (.bool false)) rfl rfl rfl (hdep ⟨7, .guard⟩ (by simp) rfl)
              obtain rfl := hsg
              have hvp : an.eval (.tmp 7) = ptrTo br2_6 := hI.oldQ (by kernel_rfl) rfl
              exact hI.pureQ (by kernel_rfl) hls rfl (wanted_of rfl rfl rfl hvg) rfl _ (run_loadQ rfl hvp wn (hI.upd.blk (show Blk ws3_0.drew br2_6 41 ar2_2 from Bxr2y6_s3_0.out) (fun h => h)) Tryd.underlying41 rfl szPt (by rw [hCr2_2.size]; exact Nat.le_of_ble_eq_true rfl)) (.val (.agg ar2_2)) rfl (congrArg Value.agg (extract_all _ 20 hCr2_2.size)) rfl hK'
            · obtain rfl := Option.some.inj ho
              obtain ⟨vg, hvg, hsg⟩ := hI.haveQ 7 _ 31 (.val (.bool false)) rfl rfl rfl (hdep ⟨7, .guard⟩ (by simp) rfl)
              obtain rfl := hsg
              obtain ⟨vp, hvp, ap, rfl, hCp⟩ := hI.haveQ 11 _ 35 (.like (IsC 20 RP [some ((eB.times (expo a)).plus (eB.times (expo b)))])) rfl rfl rfl (hdep ⟨11, .data⟩ (by simp) rfl)
              obtain ⟨vq, hvq, hsq⟩ := hI.haveQ 12 _ 36 (.val (.agg ar2_2)) rfl rfl rfl (hdep ⟨12, .data⟩ (by simp) rfl)
              obtain rfl := hsq
              exact hI.rowQ (by kernel_rfl) hls (Nat.le_refl _) rfl (wanted_of rfl rfl rfl hvg) rfl _ _ _ _ (run_pts2 rfl (eval_of hvp) (eval_of hvq) hCp.size hCr2_2.size wn) rfl (hCp.cat hCr2_2) rfl hK'
            · obtain rfl := Option.some.inj ho
              obtain ⟨vg, hvg, hsg⟩ := hI.haveQ 7 _ 31 (.val (.bool false)) rfl rfl rfl (hdep ⟨7, .guard⟩ (by simp) rfl)
              obtain rfl := hsg
              obtain ⟨vp, hvp, bp, zp, rfl, hnp, hbp, hzp⟩ := hI.haveQ 13 _ 37 (.blk (fun b => .slice (some ⟨b, 0, none⟩) 2 2) 41 (Ch 20 RP [some ((eB.times (expo a)).plus (eB.times (expo b))), some (eB.times (expo a))])) rfl rfl rfl (hdep ⟨13, .data⟩ (by simp) rfl)
              exact hI.callQ (by kernel_rfl) hls rfl (wanted_of rfl rfl rfl hvg) rfl 28 #[.tmp 37] _ rfl #[.slice (some ⟨bp, 0, none⟩) 2 2] (by simp [eval_of hvp]) (run_enter Tryd.func28 (by kernel_rfl) (by kernel_rfl)) (.like (IsC 20 RP [some (((eB.times (expo a)).plus (eB.times (expo b))).plus (eB.times (expo a)))])) rfl rfl ((addR2 _ (HT.out.upd (HU3_0.out.drew.trans hI.upd)) hbp hzp).mono fun _ _ h => h.sq) hK'
            · obtain rfl := Option.some.inj ho
              obtain ⟨vg, hvg, hsg⟩ := hI.haveQ 7 _ 31 (.val (.bool false)) rfl rfl rfl (hdep ⟨7, .guard⟩ (by simp) rfl)
              obtain rfl := hsg
              have hvp : an.eval (.tmp 7) = ptrTo br2_6 := hI.oldQ (by kernel_rfl) rfl
              exact hI.pureQ (by kernel_rfl) hls rfl (wanted_of rfl rfl rfl hvg) rfl _ (run_loadQ rfl hvp wn (hI.upd.blk (show Blk ws3_0.drew br2_6 41 ar2_2 from Bxr2y6_s3_0.out) (fun h => h)) Tryd.underlying41 rfl szPt (by rw [hCr2_2.size]; exact Nat.le_of_ble_eq_true rfl)) (.val (.agg ar2_2)) rfl (congrArg Value.agg (extract_all _ 20 hCr2_2.size)) rfl hK'
            · obtain rfl := Option.some.inj ho
              obtain ⟨vg, hvg, hsg⟩ := hI.haveQ 7 _ 31 (.val (.bool false)) rfl rfl rfl (hdep ⟨7, .guard⟩ (by simp) rfl)
              obtain rfl := hsg
              have hvp : an.eval (.tmp 8) = ptrTo br2_7 := hI.oldQ (by kernel_rfl) rfl
              exact hI.pureQ (by kernel_rfl) hls rfl (wanted_of rfl rfl rfl hvg) rfl _ (run_loadQ rfl hvp wn (hI.upd.blk (show Blk ws3_0.drew br2_7 41 ar2_5 from Bxr2y7_s3_0.out) (fun h => h)) Tryd.underlying41 rfl szPt (by rw [hCr2_5.size]; exact Nat.le_of_ble_eq_true rfl)) (.val (.agg ar2_5)) rfl (congrArg Value.agg (extract_all _ 20 hCr2_5.size)) rfl hK'
            · obtain rfl := Option.some.inj ho
              obtain ⟨vg, hvg, hsg⟩ := hI.haveQ 7 _ 31 (.val (.bool false)) rfl rfl rfl (hdep ⟨7, .guard⟩ (by simp) rfl)
              obtain rfl := hsg
              have hvp : an.eval (.tmp 7) = ptrTo br2_6 := hI.oldQ (by kernel_rfl) rfl
              exact hI.pureQ (by kernel_rfl) hls rfl (wanted_of rfl rfl rfl hvg) rfl _ (run_loadQ rfl hvp wn (hI.upd.blk (show Blk ws3_0.drew br2_6 41 ar2_2 from Bxr2y6_s3_0.out) (fun h => h)) Tryd.underlying41 rfl szPt (by rw [hCr2_2.size]; exact Nat.le_of_ble_eq_true rfl)) (.val (.agg ar2_2)) rfl (congrArg Value.agg (extract_all _ 20 hCr2_2.size)) rfl hK'
            · obtain rfl := Option.some.inj ho
              obtain ⟨vg, hvg, hsg⟩ := hI.haveQ 7 _ 31 (.val (.bool false)) rfl rfl rfl (hdep ⟨7, .guard⟩ (by simp) rfl)
              obtain rfl := hsg
              obtain ⟨vp, hvp, hsp⟩ := hI.haveQ 16 _ 40 (.val (.agg ar2_5)) rfl rfl rfl (hdep ⟨16, .data⟩ (by simp) rfl)
              obtain rfl := hsp
              obtain ⟨vq, hvq, hsq⟩ := hI.haveQ 17 _ 41 (.val (.agg ar2_2)) rfl rfl rfl (hdep ⟨17, .data⟩ (by simp) rfl)
              obtain rfl := hsq
              exact hI.rowQ (by kernel_rfl) hls (Nat.le_refl _) rfl (wanted_of rfl rfl rfl hvg) rfl _ _ _ _ (run_pts2 rfl (eval_of hvp) (eval_of hvq) hCr2_5.size hCr2_2.size wn) rfl (hCr2_5.cat hCr2_2) rfl hK'
            · obtain rfl := Option.some.inj ho
              obtain ⟨vg, hvg, hsg⟩ := hI.haveQ 7 _ 31 (.val (.bool false)) rfl rfl rfl (hdep ⟨7, .guard⟩ (by simp) rfl)
              obtain rfl := hsg
              obtain ⟨vp, hvp, bp, zp, rfl, hnp, hbp, hzp⟩ := hI.haveQ 18 _ 42 (.blk (fun b => .slice (some ⟨b, 0, none⟩) 2 2) 41 (Ch 20 RP [some (eB.times (expo b)), some (eB.times (expo a))])) rfl rfl rfl (hdep ⟨18, .data⟩ (by simp) rfl)
              exact hI.callQ (by kernel_rfl) hls rfl (wanted_of rfl rfl rfl hvg) rfl 28 #[.tmp 42] _ rfl #[.slice (some ⟨bp, 0, none⟩) 2 2] (by simp [eval_of hvp]) (run_enter Tryd.func28 (by kernel_rfl) (by kernel_rfl)) (.like (IsC 20 RP [some ((eB.times (expo b)).plus (eB.times (expo a)))])) rfl rfl ((addR2 _ (HT.out.upd (HU3_0.out.drew.trans hI.upd)) hbp hzp).mono fun _ _ h => h.sq) hK'
            · obtain rfl := Option.some.inj ho
              obtain ⟨vg, hvg, hsg⟩ := hI.haveQ 7 _ 31 (.val (.bool false)) rfl rfl rfl (hdep ⟨7, .guard⟩ (by simp) rfl)
              obtain rfl := hsg
              obtain ⟨vp, hvp, hsp⟩ := hI.haveQ 15 _ 39 (.val (.agg ar2_2)) rfl rfl rfl (hdep ⟨15, .data⟩ (by simp) rfl)
              obtain rfl := hsp
              obtain ⟨vq, hvq, aq, rfl, hCq⟩ := hI.haveQ 19 _ 43 (.like (IsC 20 RP [some ((eB.times (expo b)).plus (eB.times (expo a)))])) rfl rfl rfl (hdep ⟨19, .data⟩ (by simp) rfl)
              exact hI.rowQ (by kernel_rfl) hls (Nat.le_refl _) rfl (wanted_of rfl rfl rfl hvg) rfl _ _ _ _ (run_pts2 rfl (eval_of hvp) (eval_of hvq) hCr2_2.size hCq.size wn) rfl (hCr2_2.cat hCq) rfl hK'
            · obtain rfl := Option.some.inj ho
              obtain ⟨vg, hvg, hsg⟩ := hI.haveQ 7 _ 31 (.val (.bool false)) rfl rfl rfl (hdep ⟨7, .guard⟩ (by simp) rfl)
              obtain rfl := hsg
              obtain ⟨vp, hvp, bp, zp, rfl, hnp, hbp, hzp⟩ := hI.haveQ 20 _ 44 (.blk (fun b => .slice (some ⟨b, 0, none⟩) 2 2) 41 (Ch 20 RP [some (eB.times (expo a)), some ((eB.times (expo b)).plus (eB.times (expo a)))])) rfl rfl rfl (hdep ⟨20, .data⟩ (by simp) rfl)
              exact hI.callQ (by kernel_rfl) hls rfl (wanted_of rfl rfl rfl hvg) rfl 28 #[.tmp 44] _ rfl #[.slice (some ⟨bp, 0, none⟩) 2 2] (by simp [eval_of hvp]) (run_enter Tryd.func28 (by kernel_rfl) (by kernel_rfl)) (.like (IsC 20 RP [some ((eB.times (expo a)).plus ((eB.times (expo b)).plus (eB.times (expo a))))])) rfl rfl ((addR2 _ (HT.out.upd (HU3_0.out.drew.trans hI.upd)) hbp hzp).mono fun _ _ h => h.sq) hK'
            · obtain rfl := Option.some.inj ho
              obtain ⟨vg, hvg, hsg⟩ := hI.haveQ 7 _ 31 (.val (.bool false)) rfl rfl rfl (hdep ⟨7, .guard⟩ (by simp) rfl)
              obtain rfl := hsg
              obtain ⟨vp, hvp, ap, rfl, hCp⟩ := hI.haveQ 14 _ 38 (.like (IsC 20 RP [some (((eB.times (expo a)).plus (eB.times (expo b))).plus (eB.times (expo a)))])) rfl rfl rfl (hdep ⟨14, .data⟩ (by simp) rfl)
              obtain ⟨vq, hvq, aq, rfl, hCq⟩ := hI.haveQ 21 _ 45 (.like (IsC 20 RP [some ((eB.times (expo a)).plus ((eB.times (expo b)).plus (eB.times (expo a))))])) rfl rfl rfl (hdep ⟨21, .data⟩ (by simp) rfl)
              exact hI.callQ (by kernel_rfl) hls rfl (wanted_of rfl rfl rfl hvg) rfl 31 #[.tmp 38, .tmp 45] _ rfl #[.agg ap, .agg aq] (by simp [eval_of hvp, eval_of hvq]) (run_enter Tryd.func31 (by kernel_rfl) (by kernel_rfl)) (.val (.bool true)) rfl rfl ((equalR _ hCp hCq).mono fun _ _ h => ret_val (ret_b h (edEq_t (plus_assoc _ _ _)))) hK'
            · obtain rfl := Option.some.inj ho
              obtain ⟨vg, hvg, hsg⟩ := hI.haveQ 7 _ 31 (.val (.bool false)) rfl rfl rfl (hdep ⟨7, .guard⟩ (by simp) rfl)
              obtain rfl := hsg
              obtain ⟨vp, hvp, hsp⟩ := hI.haveQ 22 _ 46 (.val (.bool true)) rfl rfl rfl (hdep ⟨22, .data⟩ (by simp) rfl)
              obtain rfl := hsp
              exact hI.pureQ (by kernel_rfl) hls rfl (wanted_of rfl rfl rfl hvg) rfl (.bool false) (run_not rfl (eval_of hvp) wn) (.val (.bool false)) rfl rfl rfl hK'
            · obtain rfl := Option.some.inj ho
              obtain ⟨vp, hvp, hsp⟩ := hI.haveQ 7 _ 31 (.val (.bool false)) rfl rfl rfl (hdep ⟨7, .data⟩ (by simp) rfl)
              obtain rfl := hsp
              obtain ⟨vq, hvq, hsq⟩ := hI.haveQ 23 _ 47 (.val (.bool false)) rfl rfl rfl (hdep ⟨23, .data⟩ (by simp) rfl)
              obtain rfl := hsq
              exact hI.pureQ (by kernel_rfl) hls rfl rfl rfl (.bool false) (run_pickF rfl (eval_of hvp) (eval_of hvq) wn) (.val (.bool false)) rfl rfl rfl hK'
            · obtain rfl := Option.some.inj ho
              obtain ⟨vp, hvp, hsp⟩ := hI.haveQ 24 _ 48 (.val (.bool false)) rfl rfl rfl (hdep ⟨24, .data⟩ (by simp) rfl)
              obtain rfl := hsp
              exact hI.pureQ (by kernel_rfl) hls rfl rfl rfl (.bool false) (run_moveQ (.inl rfl) (eval_of hvp) wn) (.val (.bool false)) rfl rfl rfl hK'
            · obtain rfl := Option.some.inj ho
              obtain ⟨vg, hvg, hsg⟩ := hI.haveQ 25 _ 49 (.val (.bool false)) rfl rfl rfl (hdep ⟨25, .guard⟩ (by simp) rfl)
              obtain rfl := hsg
              have hvp : an.eval (.tmp 7) = ptrTo br2_6 := hI.oldQ (by kernel_rfl) rfl
              exact hI.pureQ (by kernel_rfl) hls rfl (wanted_of rfl rfl rfl hvg) rfl _ (run_loadQ rfl hvp wn (hI.upd.blk (show Blk ws3_0.drew br2_6 41 ar2_2 from Bxr2y6_s3_0.out) (fun h => h)) Tryd.underlying41 rfl szPt (by rw [hCr2_2.size]; exact Nat.le_of_ble_eq_true rfl)) (.val (.agg ar2_2)) rfl (congrArg Value.agg (extract_all _ 20 hCr2_2.size)) rfl hK'
            · obtain rfl := Option.some.inj ho
              obtain ⟨vg, hvg, hsg⟩ := hI.haveQ 25 _ 49 (.val (.bool false)) rfl rfl rfl (hdep ⟨25, .guard⟩ (by simp) rfl)
              obtain rfl := hsg
              have hvp : an.eval (.tmp 8) = ptrTo br2_7 := hI.oldQ (by kernel_rfl) rfl
              exact hI.pureQ (by kernel_rfl) hls rfl (wanted_of rfl rfl rfl hvg) rfl _ (run_loadQ rfl hvp wn (hI.upd.blk (show Blk ws3_0.drew br2_7 41 ar2_5 from Bxr2y7_s3_0.out) (fun h => h)) Tryd.underlying41 rfl szPt (by rw [hCr2_5.size]; exact Nat.le_of_ble_eq_true rfl)) (.val (.agg ar2_5)) rfl (congrArg Value.agg (extract_all _ 20 hCr2_5.size)) rfl hK'
            · obtain rfl := Option.some.inj ho
              obtain ⟨vg, hvg, hsg⟩ := hI.haveQ 25 _ 49 (.val (.bool false)) rfl rfl rfl (hdep ⟨25, .guard⟩ (by simp) rfl)
              obtain rfl := hsg
              obtain ⟨vp, hvp, hsp⟩ := hI.haveQ 26 _ 50 (.val (.agg ar2_2)) rfl rfl rfl (hdep ⟨26, .data⟩ (by simp) rfl)
              obtain rfl := hsp
              obtain ⟨vq, hvq, hsq⟩ := hI.haveQ 27 _ 51 (.val (.agg ar2_5)) rfl rfl rfl (hdep ⟨27, .data⟩ (by simp) rfl)
              obtain rfl := hsq
              exact hI.callQ (by kernel_rfl) hls rfl (wanted_of rfl rfl rfl hvg) rfl 31 #[.tmp 50, .tmp 51] _ rfl #[.agg ar2_2, .agg ar2_5] (by simp [eval_of hvp, eval_of hvq]) (run_enter Tryd.func31 (by kernel_rfl) (by kernel_rfl)) (.val (.bool true)) rfl rfl ((equalR _ hCr2_2 hCr2_5).mono fun _ _ h => ret_val (ret_b h hq)) hK'
            · obtain rfl := Option.some.inj ho
              obtain ⟨vg, hvg, hsg⟩ := hI.haveQ 25 _ 49 (.val (.bool false)) rfl rfl rfl (hdep ⟨25, .guard⟩ (by simp) rfl)
              obtain rfl := hsg
              have hvp : an.eval (.tmp 7) = ptrTo br2_6 := hI.oldQ (by kernel_rfl) rfl
              exact hI.pureQ (by kernel_rfl) hls rfl (wanted_of rfl rfl rfl hvg) rfl _ (run_loadQ rfl hvp wn (hI.upd.blk (show Blk ws3_0.drew br2_6 41 ar2_2 from Bxr2y6_s3_0.out) (fun h => h)) Tryd.underlying41 rfl szPt (by rw [hCr2_2.size]; exact Nat.le_of_ble_eq_true rfl)) (.val (.agg ar2_2)) rfl (congrArg Value.agg (extract_all _ 20 hCr2_2.size)) rfl hK'
            · obtain rfl := Option.some.inj ho
              obtain ⟨vg, hvg, hsg⟩ := hI.haveQ 25 _ 49 (.val (.bool false)) rfl rfl rfl (hdep ⟨25, .guard⟩ (by simp) rfl)
              obtain rfl := hsg
              obtain ⟨vp, hvp, hsp⟩ := hI.haveQ 29 _ 53 (.val (.agg ar2_2)) rfl rfl rfl (hdep ⟨29, .data⟩ (by simp) rfl)
              obtain rfl := hsp
              exact hI.callQ (by kernel_rfl) hls rfl (wanted_of rfl rfl rfl hvg) rfl 26 #[.tmp 53] _ rfl #[.agg ar2_2] (by simp [eval_of hvp]) (run_enter Tryd.func26 (by kernel_rfl) (by kernel_rfl)) (.val (.agg (numsA .u8 (encP (eB.times (expo a)))))) rfl rfl ((encodeR _ hCr2_2).mono fun _ _ h => ret_val h) hK'
            · obtain rfl := Option.some.inj ho
              obtain ⟨vg, hvg, hsg⟩ := hI.haveQ 25 _ 49 (.val (.bool false)) rfl rfl rfl (hdep ⟨25, .guard⟩ (by simp) rfl)
              obtain rfl := hsg
              have hvp : an.eval (.tmp 8) = ptrTo br2_7 := hI.oldQ (by kernel_rfl) rfl
              exact hI.pureQ (by kernel_rfl) hls rfl (wanted_of rfl rfl rfl hvg) rfl _ (run_loadQ rfl hvp wn (hI.upd.blk (show Blk ws3_0.drew br2_7 41 ar2_5 from Bxr2y7_s3_0.out) (fun h => h)) Tryd.underlying41 rfl szPt (by rw [hCr2_5.size]; exact Nat.le_of_ble_eq_true rfl)) (.val (.agg ar2_5)) rfl (congrArg Value.agg (extract_all _ 20 hCr2_5.size)) rfl hK'
            · obtain rfl := Option.some.inj ho
              obtain ⟨vg, hvg, hsg⟩ := hI.haveQ 25 _ 49 (.val (.bool false)) rfl rfl rfl (hdep ⟨25, .guard⟩ (by simp) rfl)
              obtain rfl := hsg
              obtain ⟨vp, hvp, hsp⟩ := hI.haveQ 31 _ 55 (.val (.agg ar2_5)) rfl rfl rfl (hdep ⟨31, .data⟩ (by simp) rfl)
              obtain rfl := hsp
              exact hI.callQ (by kernel_rfl) hls rfl (wanted_of rfl rfl rfl hvg) rfl 26 #[.tmp 55] _ rfl #[.agg ar2_5] (by simp [eval_of hvp]) (run_enter Tryd.func26 (by kernel_rfl) (by kernel_rfl)) (.val (.agg (numsA .u8 (encP (eB.times (expo b)))))) rfl rfl ((encodeR _ hCr2_5).mono fun _ _ h => ret_val h) hK'
            · obtain rfl := Option.some.inj ho
              obtain ⟨vg, hvg, hsg⟩ := hI.haveQ 25 _ 49 (.val (.bool false)) rfl rfl rfl (hdep ⟨25, .guard⟩ (by simp) rfl)
              obtain rfl := hsg
              obtain ⟨vp, hvp, hsp⟩ := hI.haveQ 30 _ 54 (.val (.agg (numsA .u8 (encP (eB.times (expo a)))))) rfl rfl rfl (hdep ⟨30, .data⟩ (by simp) rfl)
              obtain rfl := hsp
              obtain ⟨vq, hvq, hsq⟩ := hI.haveQ 32 _ 56 (.val (.agg (numsA .u8 (encP (eB.times (expo b)))))) rfl rfl rfl (hdep ⟨32, .data⟩ (by simp) rfl)
              obtain rfl := hsq
              exact hI.pureQ (by kernel_rfl) hls rfl (wanted_of rfl rfl rfl hvg) rfl (.bool true) (run_eqlK (b := true) rfl (eval_of hvp) (eval_of hvq) (encP_length _) (encP_length _) ((eb_idx _ _).trans hq) wn) (.val (.bool true)) rfl rfl rfl hK'
            · obtain rfl := Option.some.inj ho
              obtain ⟨vg, hvg, hsg⟩ := hI.haveQ 25 _ 49 (.val (.bool false)) rfl rfl rfl (hdep ⟨25, .guard⟩ (by simp) rfl)
              obtain rfl := hsg
              obtain ⟨vp, hvp, hsp⟩ := hI.haveQ 28 _ 52 (.val (.bool true)) rfl rfl rfl (hdep ⟨28, .data⟩ (by simp) rfl)
              obtain rfl := hsp
              obtain ⟨vq, hvq, hsq⟩ := hI.haveQ 33 _ 57 (.val (.bool true)) rfl rfl rfl (hdep ⟨33, .data⟩ (by simp) rfl)
              obtain rfl := hsq
              exact hI.pureQ (by kernel_rfl) hls rfl (wanted_of rfl rfl rfl hvg) rfl (.bool false) (run_neqB rfl (eval_of hvp) (eval_of hvq) rfl wn) (.val (.bool false)) rfl rfl rfl hK'
            · obtain rfl := Option.some.inj ho
              obtain ⟨vp, hvp, hsp⟩ := hI.haveQ 25 _ 49 (.val (.bool false)) rfl rfl rfl (hdep ⟨25, .data⟩ (by simp) rfl)
              obtain rfl := hsp
              obtain ⟨vq, hvq, hsq⟩ := hI.haveQ 34 _ 58 (.val (.bool false)) rfl rfl rfl (hdep ⟨34, .data⟩ (by simp) rfl)
              obtain rfl := hsq
              exact hI.pureQ (by kernel_rfl) hls rfl rfl rfl (.bool false) (run_pickF rfl (eval_of hvp) (eval_of hvq) wn) (.val (.bool false)) rfl rfl rfl hK'
            · exact hi.elim
          · intro fuel an w5 hf hI
            obtain ⟨vr4_0, hvr4_0, hsr4_0⟩ := hI.haveQ 0 _ 24 (.val (.agg ar3_3)) rfl rfl rfl rfl
            obtain rfl := hsr4_0
            obtain ⟨vr4_1, hvr4_1, hsr4_1⟩ := hI.haveQ 1 _ 25 (.val (.agg ar2_5)) rfl rfl rfl rfl
            obtain rfl := hsr4_1
            obtain ⟨vr4_2, hvr4_2, hsr4_2⟩ := hI.haveQ 2 _ 26 (.val (.agg ar2_2)) rfl rfl rfl rfl
            obtain rfl := hsr4_2
            obtain ⟨vr4_3, hvr4_3, br4_3, zr4_3, rfl, hnr4_3, hbr4_3, hzr4_3⟩ := hI.haveQ 3 _ 27 (.blk (fun b => .slice (some ⟨b, 0, none⟩) 2 2) 41 (Ch 20 RP [some (eB.times (expo b)), some (eB.times (expo a))])) rfl rfl rfl rfl
            obtain ⟨vr4_4, hvr4_4, ar4_4, rfl, hCr4_4⟩ := hI.haveQ 4 _ 28 (.like (IsC 20 RP [some ((eB.times (expo b)).plus (eB.times (expo a)))])) rfl rfl rfl rfl
            obtain ⟨vr4_5, hvr4_5, hsr4_5⟩ := hI.haveQ 5 _ 29 (.val (.bool true)) rfl rfl rfl rfl
            obtain rfl := hsr4_5
            obtain ⟨vr4_6, hvr4_6, hsr4_6⟩ := hI.haveQ 6 _ 30 (.val (.bool false)) rfl rfl rfl rfl
            obtain rfl := hsr4_6
            obtain ⟨vr4_7, hvr4_7, hsr4_7⟩ := hI.haveQ 7 _ 31 (.val (.bool false)) rfl rfl rfl rfl
            obtain rfl := hsr4_7
            obtain ⟨vr4_8, hvr4_8, hsr4_8⟩ := hI.haveQ 8 _ 32 (.val (.agg ar2_2)) rfl rfl rfl rfl
            obtain rfl := hsr4_8
            obtain ⟨vr4_9, hvr4_9, hsr4_9⟩ := hI.haveQ 9 _ 33 (.val (.agg ar2_5)) rfl rfl rfl rfl
            obtain rfl := hsr4_9
            obtain ⟨vr4_10, hvr4_10, br4_10, zr4_10, rfl, hnr4_10, hbr4_10, hzr4_10⟩ := hI.haveQ 10 _ 34 (.blk (fun b => .slice (some ⟨b, 0, none⟩) 2 2) 41 (Ch 20 RP [some (eB.times (expo a)), some (eB.times (expo b))])) rfl rfl rfl rfl
            obtain ⟨vr4_11, hvr4_11, ar4_11, rfl, hCr4_11⟩ := hI.haveQ 11 _ 35 (.like (IsC 20 RP [some ((eB.times (expo a)).plus (eB.times (expo b)))])) rfl rfl rfl rfl
            obtain ⟨vr4_12, hvr4_12, hsr4_12⟩ := hI.haveQ 12 _ 36 (.val (.agg ar2_2)) rfl rfl rfl rfl
            obtain rfl := hsr4_12
            obtain ⟨vr4_13, hvr4_13, br4_13, zr4_13, rfl, hnr4_13, hbr4_13, hzr4_13⟩ := hI.haveQ 13 _ 37 (.blk (fun b => .slice (some ⟨b, 0, none⟩) 2 2) 41 (Ch 20 RP [some ((eB.times (expo a)).plus (eB.times (expo b))), some (eB.times (expo a))])) rfl rfl rfl rfl
            obtain ⟨vr4_14, hvr4_14, ar4_14, rfl, hCr4_14⟩ := hI.haveQ 14 _ 38 (.like (IsC 20 RP [some (((eB.times (expo a)).plus (eB.times (expo b))).plus (eB.times (expo a)))])) rfl rfl rfl rfl
            obtain ⟨vr4_15, hvr4_15, hsr4_15⟩ := hI.haveQ 15 _ 39 (.val (.agg ar2_2)) rfl rfl rfl rfl
            obtain rfl := hsr4_15
            obtain ⟨vr4_16, hvr4_16, hsr4_16⟩ := hI.haveQ 16 _ 40 (.val (.agg ar2_5)) rfl rfl rfl rfl
            obtain rfl := hsr4_16
            obtain ⟨vr4_17, hvr4_17, hsr4_17⟩ := hI.haveQ 17 _ 41 (.val (.agg ar2_2)) rfl rfl rfl rfl
            obtain rfl := hsr4_17
            obtain ⟨vr4_18, hvr4_18, br4_18, zr4_18, rfl, hnr4_18, hbr4_18, hzr4_18⟩ := hI.haveQ 18 _ 42 (.blk (fun b => .slice (some ⟨b, 0, none⟩) 2 2) 41 (Ch 20 RP [some (eB.times (expo b)), some (eB.times (expo a))])) rfl rfl rfl rfl
            obtain ⟨vr4_19, hvr4_19, ar4_19, rfl, hCr4_19⟩ := hI.haveQ 19 _ 43 (.like (IsC 20 RP [some ((eB.times (expo b)).plus (eB.times (expo a)))])) rfl rfl rfl rfl
            obtain ⟨vr4_20, hvr4_20, br4_20, zr4_20, rfl, hnr4_20, hbr4_20, hzr4_20⟩ := hI.haveQ 20 _ 44 (.blk (fun b => .slice (some ⟨b, 0, none⟩) 2 2) 41 (Ch 20 RP [some (eB.times (expo a)), some ((eB.times (expo b)).plus (eB.times (expo a)))])) rfl rfl rfl rfl
            obtain ⟨vr4_21, hvr4_21, ar4_21, rfl, hCr4_21⟩ := hI.haveQ 21 _ 45 (.like (IsC 20 RP [some ((eB.times (expo a)).plus ((eB.times (expo b)).plus (eB.times (expo a))))])) rfl rfl rfl rfl
            obtain ⟨vr4_22, hvr4_22, hsr4_22⟩ := hI.haveQ 22 _ 46 (.val (.bool true)) rfl rfl rfl rfl
            obtain rfl := hsr4_22
            obtain ⟨vr4_23, hvr4_23, hsr4_23⟩ := hI.haveQ 23 _ 47 (.val (.bool false)) rfl rfl rfl rfl
            obtain rfl := hsr4_23
            obtain ⟨vr4_24, hvr4_24, hsr4_24⟩ := hI.haveQ 24 _ 48 (.val (.bool false)) rfl rfl rfl rfl
            obtain rfl := hsr4_24
            obtain ⟨vr4_25, hvr4_25, hsr4_25⟩ := hI.haveQ 25 _ 49 (.val (.bool false)) rfl rfl rfl rfl
            obtain rfl := hsr4_25
            obtain ⟨vr4_26, hvr4_26, hsr4_26⟩ := hI.haveQ 26 _ 50 (.val (.agg ar2_2)) rfl rfl rfl rfl
            obtain rfl := hsr4_26
            obtain ⟨vr4_27, hvr4_27, hsr4_27⟩ := hI.haveQ 27 _ 51 (.val (.agg ar2_5)) rfl rfl rfl rfl
            obtain rfl := hsr4_27
            obtain ⟨vr4_28, hvr4_28, hsr4_28⟩ := hI.haveQ 28 _ 52 (.val (.bool true)) rfl rfl rfl rfl
            obtain rfl := hsr4_28
            obtain ⟨vr4_29, hvr4_29, hsr4_29⟩ := hI.haveQ 29 _ 53 (.val (.agg ar2_2)) rfl rfl rfl rfl
            obtain rfl := hsr4_29
            obtain ⟨vr4_30, hvr4_30, hsr4_30⟩ := hI.haveQ 30 _ 54 (.val (.agg (numsA .u8 (encP (eB.times (expo a)))))) rfl rfl rfl rfl
            obtain rfl := hsr4_30
            obtain ⟨vr4_31, hvr4_31, hsr4_31⟩ := hI.haveQ 31 _ 55 (.val (.agg ar2_5)) rfl rfl rfl rfl
            obtain rfl := hsr4_31
            obtain ⟨vr4_32, hvr4_32, hsr4_32⟩ := hI.haveQ 32 _ 56 (.val (.agg (numsA .u8 (encP (eB.times (expo b)))))) rfl rfl rfl rfl
            obtain rfl := hsr4_32
            obtain ⟨vr4_33, hvr4_33, hsr4_33⟩ := hI.haveQ 33 _ 57 (.val (.bool true)) rfl rfl rfl rfl
            obtain rfl := hsr4_33
            obtain ⟨vr4_34, hvr4_34, hsr4_34⟩ := hI.haveQ 34 _ 58 (.val (.bool false)) rfl rfl rfl rfl
            obtain rfl := hsr4_34
            obtain ⟨vr4_35, hvr4_35, hsr4_35⟩ := hI.haveQ 35 _ 59 (.val (.bool false)) rfl rfl rfl rfl
            obtain rfl := hsr4_35
            have hupd := hI.upd
            have ha := hI.act [(24, .agg ar3_3), (25, .agg ar2_5), (26, .agg ar2_2), (27, .slice (some ⟨br4_3, 0, none⟩) 2 2), (28, .agg ar4_4), (29, .bool true), (30, .bool false), (31, .bool false), (32, .agg ar2_2), (33, .agg ar2_5), (34, .slice (some ⟨br4_10, 0, none⟩) 2 2), (35, .agg ar4_11), (36, .agg ar2_2), (37, .slice (some ⟨br4_13, 0, none⟩) 2 2), (38, .agg ar4_14), (39, .agg ar2_2), (40, .agg ar2_5), (41, .agg ar2_2), (42, .slice (some ⟨br4_18, 0, none⟩) 2 2), (43, .agg ar4_19), (44, .slice (some ⟨br4_20, 0, none⟩) 2 2), (45, .agg ar4_21), (46, .bool true), (47, .bool false), (48, .bool false), (49, .bool false), (50, .agg ar2_2), (51, .agg ar2_5), (52, .bool true), (53, .agg ar2_2), (54, .agg (numsA .u8 (encP (eB.times (expo a))))), (55, .agg ar2_5), (56, .agg (numsA .u8 (encP (eB.times (expo b))))), (57, .bool true), (58, .bool false), (59, .bool false)] (by simp [hvr4_0, hvr4_1, hvr4_2, hvr4_3, hvr4_4, hvr4_5, hvr4_6, hvr4_7, hvr4_8, hvr4_9, hvr4_10, hvr4_11, hvr4_12, hvr4_13, hvr4_14, hvr4_15, hvr4_16, hvr4_17, hvr4_18, hvr4_19, hvr4_20, hvr4_21, hvr4_22, hvr4_23, hvr4_24, hvr4_25, hvr4_26, hvr4_27, hvr4_28, hvr4_29, hvr4_30, hvr4_31, hvr4_32, hvr4_33, hvr4_34, hvr4_35]) (by kernel_rfl)
            clear hI hvr4_0 hvr4_1 hvr4_2 hvr4_3 hvr4_4 hvr4_5 hvr4_6 hvr4_7 hvr4_8 hvr4_9 hvr4_10 hvr4_11 hvr4_12 hvr4_13 hvr4_14 hvr4_15 hvr4_16 hvr4_17 hvr4_18 hvr4_19 hvr4_20 hvr4_21 hvr4_22 hvr4_23 hvr4_24 hvr4_25 hvr4_26 hvr4_27 hvr4_28 hvr4_29 hvr4_30 hvr4_31 hvr4_32 hvr4_33 hvr4_34 hvr4_35
            subst ha
            simp only [List.foldl_cons, List.foldl_nil, List.setIfInBounds_toArray, List.set_cons_zero, List.set_cons_succ]
            have Bxr0y0_4 := Lib.hid (hupd.blk (show Blk ws3_0.drew br0_0 23 (numsA .u8 a) from Bxr0y0_s3_0.out) (fun h => h))
            have Bxr0y1_4 := Lib.hid (hupd.blk (show Blk ws3_0.drew br0_1 23 (numsA .u8 b) from Bxr0y1_s3_0.out) (fun h => h))
            have Bxr2y6_4 := Lib.hid (hupd.blk (show Blk ws3_0.drew br2_6 41 ar2_2 from Bxr2y6_s3_0.out) (fun h => h))
            have Bxr2y7_4 := Lib.hid (hupd.blk (show Blk ws3_0.drew br2_7 41 ar2_5 from Bxr2y7_s3_0.out) (fun h => h))
            have Bxr3y4_4 := Lib.hid (hupd.blk (show Blk ws3_0.drew br3_4 41 ar3_3 from Bxr3y4_s3_0.out) (fun h => h))
            have HU4 := Lib.hid (HU3_0.out.drew.trans hupd)
            clear hupd
            refine wpAny_done (by kernel_rfl) ?_ _
            refine hK6 _ _ ?_
            clear hK6
            refine wp_cond_false rfl ?_
            refine wp_skip ?_
            refine hK5 _ _ ?_
            clear hK5
            refine wp_seq_k fun K7 hK7 => ?_
            refine wp_region_qS 2 #[true, true, false] [2] ([.like (IsC 20 RP [some EP.nil]), .blk ptrTo 41 (Ch 20 RP [none]), .val undef] : List SQ) (by kernel_rfl) (by kernel_rfl) (by kernel_rfl) ?_ ?_
            · intro i o listed an wn ho hls hst hun hdep hI hpre K' hK'
              have hi : i = 0 ∨ i = 1 ∨ False := slot_cases (l := [0, 1]) rfl ho hst
              rcases hi with rfl | rfl | hi
              · obtain rfl := Option.some.inj ho
                exact hI.callQ (by kernel_rfl) hls rfl rfl rfl 33 #[] _ rfl #[] (by simp) (run_enter Tryd.func33 (by kernel_rfl) (by kernel_rfl)) (.like (IsC 20 RP [some EP.nil])) rfl rfl ((zeroR _ ).mono fun _ _ h => h.sq) hK'
              · obtain rfl := Option.some.inj ho
                exact hI.newQ (by kernel_rfl) hls (Nat.le_refl _) (newsQ_spec (l := [1]) (by kernel_rfl) ⟨⟨_, _, rfl⟩, trivial⟩) rfl rfl rfl 41 zPt _ (run_allocQ rfl zPt_run wn) rfl zPt_p hK'
              · exact hi.elim
            · intro an w6 hI
              obtain ⟨vr5_0, hvr5_0, ar5_0, rfl, hCr5_0⟩ := hI.haveQ 0 _ 60 (.like (IsC 20 RP [some EP.nil])) rfl rfl rfl rfl
              obtain ⟨vr5_1, hvr5_1, br5_1, zr5_1, rfl, hnr5_1, hbr5_1, hzr5_1⟩ := hI.haveQ 1 _ 10 (.blk ptrTo 41 (Ch 20 RP [none])) rfl rfl rfl rfl
              have hupd := hI.upd
              have ha := hI.act [(60, .agg ar5_0), (10, ptrTo br5_1)] (by simp [hvr5_0, hvr5_1]) (by kernel_rfl)
              clear hI hvr5_0 hvr5_1
              subst ha
              simp only [List.foldl_cons, List.foldl_nil, List.setIfInBounds_toArray, List.set_cons_zero, List.set_cons_succ]
              have hner5_1_Bxr0y0_4 := Lib.hid (show br5_1 ≠ br0_0 from Nat.ne_of_gt (Nat.lt_of_lt_of_le Bxr0y0_4.out.lt hnr5_1))
              have hner5_1_Bxr0y1_4 := Lib.hid (show br5_1 ≠ br0_1 from Nat.ne_of_gt (Nat.lt_of_lt_of_le Bxr0y1_4.out.lt hnr5_1))
              have hner5_1_Bxr2y6_4 := Lib.hid (show br5_1 ≠ br2_6 from Nat.ne_of_gt (Nat.lt_of_lt_of_le Bxr2y6_4.out.lt hnr5_1))
              have hner5_1_Bxr2y7_4 := Lib.hid (show br5_1 ≠ br2_7 from Nat.ne_of_gt (Nat.lt_of_lt_of_le Bxr2y7_4.out.lt hnr5_1))
              have hner5_1_Bxr3y4_4 := Lib.hid (show br5_1 ≠ br3_4 from Nat.ne_of_gt (Nat.lt_of_lt_of_le Bxr3y4_4.out.lt hnr5_1))
              have hger5_1 := Lib.hid (Nat.le_trans HU4.out.size hnr5_1)
              have Bxr0y0_5 := Lib.hid (hupd.blk (show Blk w5 br0_0 23 (numsA .u8 a) from Bxr0y0_4.out) (fun h => h))
              have Bxr0y1_5 := Lib.hid (hupd.blk (show Blk w5 br0_1 23 (numsA .u8 b) from Bxr0y1_4.out) (fun h => h))
              have Bxr2y6_5 := Lib.hid (hupd.blk (show Blk w5 br2_6 41 ar2_2 from Bxr2y6_4.out) (fun h => h))
              have Bxr2y7_5 := Lib.hid (hupd.blk (show Blk w5 br2_7 41 ar2_5 from Bxr2y7_4.out) (fun h => h))
              have Bxr3y4_5 := Lib.hid (hupd.blk (show Blk w5 br3_4 41 ar3_3 from Bxr3y4_4.out) (fun h => h))
              have Bxr5y1 := Lib.hid hbr5_1
              have HU5 := Lib.hid (HU4.out.trans hupd)
              clear hupd
              refine wpOps_storeQ 2 rfl rfl rfl 41 (.tmp 10) (.tmp 60) rfl br5_1 0 20 rfl ar5_0 rfl 41 zr5_1 Bxr5y1.out szPt hCr5_0.size (by rw [hzr5_1.size]; exact Nat.le_of_ble_eq_true rfl) hCr5_0.one' ?_
              intro ws5_0 hs5_0 hus5_0
              rw [splice_all _ _ 20 hzr5_1.size hCr5_0.size] at hs5_0
              have Bxr0y0_s5_0 := Lib.hid (hus5_0.blk Bxr0y0_5.out (fun e => hner5_1_Bxr0y0_4.out e.symm))
              have Bxr0y1_s5_0 := Lib.hid (hus5_0.blk Bxr0y1_5.out (fun e => hner5_1_Bxr0y1_4.out e.symm))
              have Bxr2y6_s5_0 := Lib.hid (hus5_0.blk Bxr2y6_5.out (fun e => hner5_1_Bxr2y6_4.out e.symm))
              have Bxr2y7_s5_0 := Lib.hid (hus5_0.blk Bxr2y7_5.out (fun e => hner5_1_Bxr2y7_4.out e.symm))
              have Bxr3y4_s5_0 := Lib.hid (hus5_0.blk Bxr3y4_5.out (fun e => hner5_1_Bxr3y4_4.out e.symm))
              have Bxr5y1_s5_0 := Lib.hid hs5_0
              have HU5_0 := Lib.hid (HU5.out.step hus5_0 (fun i hi h => absurd hi (Nat.not_lt.2 (h.symm ▸ hger5_1.out))))
              clear hs5_0 hus5_0
              refine wpOps_nil ?_
              refine hK7 _ _ ?_
              clear hK7
              refine wp_seq_k fun K8 hK8 => ?_
              refine wp_seq_k fun K9 hK9 => ?_
              refine wp_region_qS 1 #[true] [] ([.val (.int .u8 0)] : List SQ) (by kernel_rfl) (by kernel_rfl) (by kernel_rfl) ?_ ?_
              · intro i o listed an wn ho hls hst hun hdep hI hpre K' hK'
                have hi : i = 0 ∨ False := slot_cases (l := [0]) rfl ho hst
                rcases hi with rfl | hi
                · obtain rfl := Option.some.inj ho
                  exact hI.pureQ (by kernel_rfl) hls rfl rfl rfl (.int .u8 0) (run_moveQ (.inr rfl) (show an.eval (.const (.int .u8 0)) = .int .u8 0 from rfl) wn) (.val (.int .u8 0)) rfl rfl rfl hK'
                · exact hi.elim
              · intro an w7 hI
                obtain ⟨vr6_0, hvr6_0, hsr6_0⟩ := hI.haveQ 0 _ 11 (.val (.int .u8 0)) rfl rfl rfl rfl
                obtain rfl := hsr6_0
                have hupd := hI.upd
                have ha := hI.act [(11, .int .u8 0)] (by simp [hvr6_0]) (by kernel_rfl)
                clear hI hvr6_0
                subst ha
                simp only [List.foldl_cons, List.foldl_nil, List.setIfInBounds_toArray, List.set_cons_zero, List.set_cons_succ]
                have Bxr0y0_6 := Lib.hid (hupd.blk (show Blk ws5_0 br0_0 23 (numsA .u8 a) from Bxr0y0_s5_0.out) (fun h => h))
                have Bxr0y1_6 := Lib.hid (hupd.blk (show Blk ws5_0 br0_1 23 (numsA .u8 b) from Bxr0y1_s5_0.out) (fun h => h))
                have Bxr2y6_6 := Lib.hid (hupd.blk (show Blk ws5_0 br2_6 41 ar2_2 from Bxr2y6_s5_0.out) (fun h => h))
                have Bxr2y7_6 := Lib.hid (hupd.blk (show Blk ws5_0 br2_7 41 ar2_5 from Bxr2y7_s5_0.out) (fun h => h))
                have Bxr3y4_6 := Lib.hid (hupd.blk (show Blk ws5_0 br3_4 41 ar3_3 from Bxr3y4_s5_0.out) (fun h => h))
                have Bxr5y1_6 := Lib.hid (hupd.blk (show Blk ws5_0 br5_1 41 ar5_0 from Bxr5y1_s5_0.out) (fun h => h))
                have HU6 := Lib.hid (HU5_0.out.trans hupd)
                clear hupd
                refine wpOps_nil ?_
                refine hK9 _ _ ?_
                clear hK9
                refine wp_block ?_
                refine wp_loop (fun a' w' => ∃ (k : Nat) (u10_61 u10_62 u10_63 u10_64 u10_65 u10_66 u10_67 u10_68 u10_69 u10_70 : Value) (A10_10 : Array Value), k ≤ (n % 20).toNat ∧ a' = ⟨#[.agg (numsA .u8 a), .agg (numsA .u8 b), .int .u8 n, ptrTo br0_0, ptrTo br0_1, undef, .bool false, ptrTo br2_6, ptrTo br2_7, ptrTo br3_4, ptrTo br5_1, .int .u8 (k : Int), .bool true, .bool false, .agg ar2_0, .agg (numsA .u8 a), .agg ar2_2, .agg ar2_3, .agg (numsA .u8 b), .agg ar2_5, .agg ar2_2, .agg ar2_5, .slice (some ⟨br3_2, 0, none⟩) 2 2, .agg ar3_3, .agg ar3_3, .agg ar2_5, .agg ar2_2, .slice (some ⟨br4_3, 0, none⟩) 2 2, .agg ar4_4, .bool true, .bool false, .bool false, .agg ar2_2, .agg ar2_5, .slice (some ⟨br4_10, 0, none⟩) 2 2, .agg ar4_11, .agg ar2_2, .slice (some ⟨br4_13, 0, none⟩) 2 2, .agg ar4_14, .agg ar2_2, .agg ar2_5, .agg ar2_2, .slice (some ⟨br4_18, 0, none⟩) 2 2, .agg ar4_19, .slice (some ⟨br4_20, 0, none⟩) 2 2, .agg ar4_21, .bool true, .bool false, .bool false, .bool false, .agg ar2_2, .agg ar2_5, .bool true, .agg ar2_2, .agg (numsA .u8 (encP (eB.times (expo a)))), .agg ar2_5, .agg (numsA .u8 (encP (eB.times (expo b)))), .bool true, .bool false, .bool false, .agg ar5_0, u10_61, u10_62, u10_63, u10_64, u10_65, u10_66, u10_67, u10_68, u10_69, u10_70, undef, undef, undef, undef, undef, undef, undef], []⟩ ∧ Upd (fun _ => False) w w' ∧ Blk w' br5_1 41 A10_10 ∧ Ch 20 RP [some ((eB.times (expo a)).times k)] A10_10 ∧ Blk w' br0_0 23 (numsA .u8 a) ∧ Blk w' br0_1 23 (numsA .u8 b) ∧ Blk w' br2_6 41 ar2_2 ∧ Blk w' br2_7 41 ar2_5 ∧ Blk w' br3_4 41 ar3_3) (fun a' _ => ((n % 20).toNat) - (intOf (a'.tmps.getD 11 undef)).toNat) ?_ ?_
                · exact ⟨0, undef, undef, undef, undef, undef, undef, undef, undef, undef, undef, ar5_0, Nat.zero_le _, rfl, HU6.out, Bxr5y1_6.out, hCr5_0.to (rfl), Bxr0y0_6.out, Bxr0y1_6.out, Bxr2y6_6.out, Bxr2y7_6.out, Bxr3y4_6.out⟩
                · rintro a' wl10 ⟨k, u10_61, u10_62, u10_63, u10_64, u10_65, u10_66, u10_67, u10_68, u10_69, u10_70, A10_10, hk10, rfl, hul, hbl10, hcl10, hol0, hol1, hol2, hol3, hol4⟩
                  have HUl10 := Lib.hid hul
                  have Bxr5y1_l10 := Lib.hid hbl10
                  have Bxr0y0_l10 := Lib.hid hol0
                  have Bxr0y1_l10 := Lib.hid hol1
                  have Bxr2y6_l10 := Lib.hid hol2
                  have Bxr2y7_l10 := Lib.hid hol3
                  have Bxr3y4_l10 := Lib.hid hol4
                  clear hul hbl10 hol0 hol1 hol2 hol3 hol4
                  by_cases hlt : k < (n % 20).toNat
                  · have Hlt10 := Lib.hid hlt
                    refine wp_seq_k fun K11 hK11 => ?_
                    refine wp_seq_k fun K12 hK12 => ?_
                    have hq7_3 : decide ((((k : Int) : Int) < (n % 20) : Prop)) = true := decide_eq_true (by omega)
                    refine wp_region_qS 4 #[true, true, true, true] [] ([.val (.int .u8 (k : Int)), .val (.int .u8 n), .val (.int .u8 (n % 20)), .val (.bool true)] : List SQ) (by kernel_rfl) (by kernel_rfl) (by kernel_rfl) ?_ ?_
                    · intro i o listed an wn ho hls hst hun hdep hI hpre K' hK'
                      have hi : i = 0 ∨ i = 1 ∨ i = 2 ∨ i = 3 ∨ False := slot_cases (l := [0, 1, 2, 3]) rfl ho hst
                      rcases hi with rfl | rfl | rfl | rfl | hi
                      · obtain rfl := Option.some.inj ho
                        have hvp : an.eval (.tmp 11) = .int .u8 (k : Int) := hI.oldQ (by kernel_rfl) rfl
                        exact hI.pureQ (by kernel_rfl) hls rfl rfl rfl (.int .u8 (k : Int)) (run_moveQ (.inl rfl) hvp wn) (.val (.int .u8 (k : Int))) rfl rfl rfl hK'
                      · obtain rfl := Option.some.inj ho
                        have hvp : an.eval (.tmp 2) = .int .u8 n := hI.oldQ (by kernel_rfl) rfl
                        exact hI.pureQ (by kernel_rfl) hls rfl rfl rfl (.int .u8 n) (run_moveQ (.inl rfl) hvp wn) (.val (.int .u8 n)) rfl rfl rfl hK'
                      · obtain rfl := Option.some.inj ho
                        obtain ⟨vp, hvp, hsp⟩ := hI.haveQ 1 _ 62 (.val (.int .u8 n)) rfl rfl rfl (hdep ⟨1, .data⟩ (by simp) rfl)
                        obtain rfl := hsp
                        exact hI.pureQ (by kernel_rfl) hls rfl rfl rfl (.int .u8 (n % 20)) (run_rem rfl (eval_of hvp) rfl (by decide) (Int.tmod_eq_emod_of_nonneg hn.1) wn) (.val (.int .u8 (n % 20))) rfl rfl rfl hK'
                      · obtain rfl := Option.some.inj ho
                        obtain ⟨vp, hvp, hsp⟩ := hI.haveQ 0 _ 61 (.val (.int .u8 (k : Int))) rfl rfl rfl (hdep ⟨0, .data⟩ (by simp) rfl)
                        obtain rfl := hsp
                        obtain ⟨vq, hvq, hsq⟩ := hI.haveQ 2 _ 63 (.val (.int .u8 (n % 20))) rfl rfl rfl (hdep ⟨2, .data⟩ (by simp) rfl)
                        obtain rfl := hsq
                        exact hI.pureQ (by kernel_rfl) hls rfl rfl rfl (.bool true) (run_lss rfl (eval_of hvp) (eval_of hvq) hq7_3 wn) (.val (.bool true)) rfl rfl rfl hK'
                      · exact hi.elim
                    · intro an w8 hI
                      obtain ⟨vr7_0, hvr7_0, hsr7_0⟩ := hI.haveQ 0 _ 61 (.val (.int .u8 (k : Int))) rfl rfl rfl rfl
                      obtain rfl := hsr7_0
                      obtain ⟨vr7_1, hvr7_1, hsr7_1⟩ := hI.haveQ 1 _ 62 (.val (.int .u8 n)) rfl rfl rfl rfl
                      obtain rfl := hsr7_1
                      obtain ⟨vr7_2, hvr7_2, hsr7_2⟩ := hI.haveQ 2 _ 63 (.val (.int .u8 (n % 20))) rfl rfl rfl rfl
                      obtain rfl := hsr7_2
                      obtain ⟨vr7_3, hvr7_3, hsr7_3⟩ := hI.haveQ 3 _ 64 (.val (.bool true)) rfl rfl rfl rfl
                      obtain rfl := hsr7_3
                      have hupd := hI.upd
                      have ha := hI.act [(61, .int .u8 (k : Int)), (62, .int .u8 n), (63, .int .u8 (n % 20)), (64, .bool true)] (by simp [hvr7_0, hvr7_1, hvr7_2, hvr7_3]) (by kernel_rfl)
                      clear hI hvr7_0 hvr7_1 hvr7_2 hvr7_3
                      subst ha
                      simp only [List.foldl_cons, List.foldl_nil, List.setIfInBounds_toArray, List.set_cons_zero, List.set_cons_succ]
                      have Bxr0y0_7 := Lib.hid (hupd.blk (show Blk wl10 br0_0 23 (numsA .u8 a) from Bxr0y0_l10.out) (fun h => h))
                      have Bxr0y1_7 := Lib.hid (hupd.blk (show Blk wl10 br0_1 23 (numsA .u8 b) from Bxr0y1_l10.out) (fun h => h))
                      have Bxr2y6_7 := Lib.hid (hupd.blk (show Blk wl10 br2_6 41 ar2_2 from Bxr2y6_l10.out) (fun h => h))
                      have Bxr2y7_7 := Lib.hid (hupd.blk (show Blk wl10 br2_7 41 ar2_5 from Bxr2y7_l10.out) (fun h => h))
                      have Bxr3y4_7 := Lib.hid (hupd.blk (show Blk wl10 br3_4 41 ar3_3 from Bxr3y4_l10.out) (fun h => h))
                      have Bxr5y1_7 := Lib.hid (hupd.blk (show Blk wl10 br5_1 41 A10_10 from Bxr5y1_l10.out) (fun h => h))
                      have HU7 := Lib.hid (HUl10.out.trans hupd)
                      clear hupd
                      refine wpOps_nil ?_
                      refine hK12 _ _ ?_
                      clear hK12
                      refine wp_cond_true rfl ?_
                      refine wp_skip ?_
                      refine hK11 _ _ ?_
                      clear hK11
                      refine wp_seq_k fun K13 hK13 => ?_
                      refine wp_block ?_
                      refine wp_region_qS 4 #[true, true, true, true, false] [4] ([.val (.agg A10_10), .val (.agg ar2_2), .blk (fun b => .slice (some ⟨b, 0, none⟩) 2 2) 41 (Ch 20 RP [some ((eB.times (expo a)).times k), some (eB.times (expo a))]), .like (IsC 20 RP [some (((eB.times (expo a)).times k).plus (eB.times (expo a)))]), .val undef] : List SQ) (by kernel_rfl) (by kernel_rfl) (by kernel_rfl) ?_ ?_
                      · intro i o listed an wn ho hls hst hun hdep hI hpre K' hK'
                        have hi : i = 0 ∨ i = 1 ∨ i = 2 ∨ i = 3 ∨ False := slot_cases (l := [0, 1, 2, 3]) rfl ho hst
                        rcases hi with rfl | rfl | rfl | rfl | hi
                        · obtain rfl := Option.some.inj ho
                          have hvp : an.eval (.tmp 10) = ptrTo br5_1 := hI.oldQ (by kernel_rfl) rfl
                          exact hI.pureQ (by kernel_rfl) hls rfl rfl rfl _ (run_loadQ rfl hvp wn (hI.upd.blk (show Blk w8 br5_1 41 A10_10 from Bxr5y1_7.out) (fun h => h)) Tryd.underlying41 rfl szPt (by rw [hcl10.size]; exact Nat.le_of_ble_eq_true rfl)) (.val (.agg A10_10)) rfl (congrArg Value.agg (extract_all _ 20 hcl10.size)) rfl hK'
                        · obtain rfl := Option.some.inj ho
                          have hvp : an.eval (.tmp 7) = ptrTo br2_6 := hI.oldQ (by kernel_rfl) rfl
                          exact hI.pureQ (by kernel_rfl) hls rfl rfl rfl _ (run_loadQ rfl hvp wn (hI.upd.blk (show Blk w8 br2_6 41 ar2_2 from Bxr2y6_7.out) (fun h => h)) Tryd.underlying41 rfl szPt (by rw [hCr2_2.size]; exact Nat.le_of_ble_eq_true rfl)) (.val (.agg ar2_2)) rfl (congrArg Value.agg (extract_all _ 20 hCr2_2.size)) rfl hK'
                        · obtain rfl := Option.some.inj ho
                          obtain ⟨vp, hvp, hsp⟩ := hI.haveQ 0 _ 67 (.val (.agg A10_10)) rfl rfl rfl (hdep ⟨0, .data⟩ (by simp) rfl)
                          obtain rfl := hsp
                          obtain ⟨vq, hvq, hsq⟩ := hI.haveQ 1 _ 68 (.val (.agg ar2_2)) rfl rfl rfl (hdep ⟨1, .data⟩ (by simp) rfl)
                          obtain rfl := hsq
                          exact hI.rowQ (by kernel_rfl) hls (Nat.le_refl _) rfl rfl rfl _ _ _ _ (run_pts2 rfl (eval_of hvp) (eval_of hvq) hcl10.size hCr2_2.size wn) rfl (hcl10.cat hCr2_2) rfl hK'
                        · obtain rfl := Option.some.inj ho
                          obtain ⟨vp, hvp, bp, zp, rfl, hnp, hbp, hzp⟩ := hI.haveQ 2 _ 69 (.blk (fun b => .slice (some ⟨b, 0, none⟩) 2 2) 41 (Ch 20 RP [some ((eB.times (expo a)).times k), some (eB.times (expo a))])) rfl rfl rfl (hdep ⟨2, .data⟩ (by simp) rfl)
                          exact hI.callQ (by kernel_rfl) hls rfl rfl rfl 28 #[.tmp 69] _ rfl #[.slice (some ⟨bp, 0, none⟩) 2 2] (by simp [eval_of hvp]) (run_enter Tryd.func28 (by kernel_rfl) (by kernel_rfl)) (.like (IsC 20 RP [some (((eB.times (expo a)).times k).plus (eB.times (expo a)))])) rfl rfl ((addR2 _ (HT.out.upd (HU7.out.trans hI.upd)) hbp hzp).mono fun _ _ h => h.sq) hK'
                        · exact hi.elim
                      · intro an w9 hI
                        obtain ⟨vr8_0, hvr8_0, hsr8_0⟩ := hI.haveQ 0 _ 67 (.val (.agg A10_10)) rfl rfl rfl rfl
                        obtain rfl := hsr8_0
                        obtain ⟨vr8_1, hvr8_1, hsr8_1⟩ := hI.haveQ 1 _ 68 (.val (.agg ar2_2)) rfl rfl rfl rfl
                        obtain rfl := hsr8_1
                        obtain ⟨vr8_2, hvr8_2, br8_2, zr8_2, rfl, hnr8_2, hbr8_2, hzr8_2⟩ := hI.haveQ 2 _ 69 (.blk (fun b => .slice (some ⟨b, 0, none⟩) 2 2) 41 (Ch 20 RP [some ((eB.times (expo a)).times k), some (eB.times (expo a))])) rfl rfl rfl rfl
                        obtain ⟨vr8_3, hvr8_3, ar8_3, rfl, hCr8_3⟩ := hI.haveQ 3 _ 70 (.like (IsC 20 RP [some (((eB.times (expo a)).times k).plus (eB.times (expo a)))])) rfl rfl rfl rfl
                        have hupd := hI.upd
                        have ha := hI.act [(67, .agg A10_10), (68, .agg ar2_2), (69, .slice (some ⟨br8_2, 0, none⟩) 2 2), (70, .agg ar8_3)] (by simp [hvr8_0, hvr8_1, hvr8_2, hvr8_3]) (by kernel_rfl)
                        clear hI hvr8_0 hvr8_1 hvr8_2 hvr8_3
                        subst ha
                        simp only [List.foldl_cons, List.foldl_nil, List.setIfInBounds_toArray, List.set_cons_zero, List.set_cons_succ]
                        have Bxr0y0_8 := Lib.hid (hupd.blk (show Blk w8 br0_0 23 (numsA .u8 a) from Bxr0y0_7.out) (fun h => h))
                        have Bxr0y1_8 := Lib.hid (hupd.blk (show Blk w8 br0_1 23 (numsA .u8 b) from Bxr0y1_7.out) (fun h => h))
                        have Bxr2y6_8 := Lib.hid (hupd.blk (show Blk w8 br2_6 41 ar2_2 from Bxr2y6_7.out) (fun h => h))
                        have Bxr2y7_8 := Lib.hid (hupd.blk (show Blk w8 br2_7 41 ar2_5 from Bxr2y7_7.out) (fun h => h))
                        have Bxr3y4_8 := Lib.hid (hupd.blk (show Blk w8 br3_4 41 ar3_3 from Bxr3y4_7.out) (fun h => h))
                        have Bxr5y1_8 := Lib.hid (hupd.blk (show Blk w8 br5_1 41 A10_10 from Bxr5y1_7.out) (fun h => h))
                        have HU8 := Lib.hid (HU7.out.trans hupd)
                        clear hupd
                        refine wpOps_storeQ 4 rfl rfl rfl 41 (.tmp 10) (.tmp 70) rfl br5_1 0 20 rfl ar8_3 rfl 41 A10_10 Bxr5y1_8.out szPt hCr8_3.size (by rw [hcl10.size]; exact Nat.le_of_ble_eq_true rfl) hCr8_3.one' ?_
                        intro ws8_0 hs8_0 hus8_0
                        rw [splice_all _ _ 20 hcl10.size hCr8_3.size] at hs8_0
                        have Bxr0y0_s8_0 := Lib.hid (hus8_0.blk Bxr0y0_8.out (fun e => hner5_1_Bxr0y0_4.out e.symm))
                        have Bxr0y1_s8_0 := Lib.hid (hus8_0.blk Bxr0y1_8.out (fun e => hner5_1_Bxr0y1_4.out e.symm))
                        have Bxr2y6_s8_0 := Lib.hid (hus8_0.blk Bxr2y6_8.out (fun e => hner5_1_Bxr2y6_4.out e.symm))
                        have Bxr2y7_s8_0 := Lib.hid (hus8_0.blk Bxr2y7_8.out (fun e => hner5_1_Bxr2y7_4.out e.symm))
                        have Bxr3y4_s8_0 := Lib.hid (hus8_0.blk Bxr3y4_8.out (fun e => hner5_1_Bxr3y4_4.out e.symm))
                        have Bxr5y1_s8_0 := Lib.hid hs8_0
                        have HU8_0 := Lib.hid (HU8.out.step hus8_0 (fun i hi h => absurd hi (Nat.not_lt.2 (h.symm ▸ hger5_1.out))))
                        clear hs8_0 hus8_0
                        refine wpOps_nil ?_
                        refine hK13 _ _ ?_
                        clear hK13
                        have hq9_1 : IntKind.wrap .u8 ((k : Int) + 1) = (k : Int) + 1 := IntWalk.u8_in _ (by omega)
                        refine wp_region_qS 3 #[true, true, true] [] ([.val (.int .u8 (k : Int)), .val (.int .u8 ((k : Int) + 1)), .val (.int .u8 ((k : Int) + 1))] : List SQ) (by kernel_rfl) (by kernel_rfl) (by kernel_rfl) ?_ ?_
                        · intro i o listed an wn ho hls hst hun hdep hI hpre K' hK'
                          have hi : i = 0 ∨ i = 1 ∨ i = 2 ∨ False := slot_cases (l := [0, 1, 2]) rfl ho hst
                          rcases hi with rfl | rfl | rfl | hi
                          · obtain rfl := Option.some.inj ho
                            have hvp : an.eval (.tmp 11) = .int .u8 (k : Int) := hI.oldS hpre (by kernel_rfl) rfl
                            exact hI.pureQ (by kernel_rfl) hls rfl rfl rfl (.int .u8 (k : Int)) (run_moveQ (.inl rfl) hvp wn) (.val (.int .u8 (k : Int))) rfl rfl rfl hK'
                          · obtain rfl := Option.some.inj ho
                            obtain ⟨vp, hvp, hsp⟩ := hI.haveQ 0 _ 65 (.val (.int .u8 (k : Int))) rfl rfl rfl (hdep ⟨0, .data⟩ (by simp) rfl)
                            obtain rfl := hsp
                            exact hI.pureQ (by kernel_rfl) hls rfl rfl rfl (.int .u8 ((k : Int) + 1)) (run_add rfl (eval_of hvp) rfl hq9_1 wn) (.val (.int .u8 ((k : Int) + 1))) rfl rfl rfl hK'
                          · obtain rfl := Option.some.inj ho
                            obtain ⟨vp, hvp, hsp⟩ := hI.haveQ 1 _ 66 (.val (.int .u8 ((k : Int) + 1))) rfl rfl rfl (hdep ⟨1, .data⟩ (by simp) rfl)
                            obtain rfl := hsp
                            exact hI.pureQ (by kernel_rfl) hls rfl rfl rfl (.int .u8 ((k : Int) + 1)) (run_moveQ (.inr rfl) (eval_of hvp) wn) (.val (.int .u8 ((k : Int) + 1))) rfl rfl rfl hK'
                          · exact hi.elim
                        · intro an w10 hI
                          obtain ⟨vr9_0, hvr9_0, hsr9_0⟩ := hI.haveQ 0 _ 65 (.val (.int .u8 (k : Int))) rfl rfl rfl rfl
                          obtain rfl := hsr9_0
                          obtain ⟨vr9_1, hvr9_1, hsr9_1⟩ := hI.haveQ 1 _ 66 (.val (.int .u8 ((k : Int) + 1))) rfl rfl rfl rfl
                          obtain rfl := hsr9_1
                          obtain ⟨vr9_2, hvr9_2, hsr9_2⟩ := hI.haveQ 2 _ 11 (.val (.int .u8 ((k : Int) + 1))) rfl rfl rfl rfl
                          obtain rfl := hsr9_2
                          have hupd := hI.upd
                          have ha := hI.act [(65, .int .u8 (k : Int)), (66, .int .u8 ((k : Int) + 1)), (11, .int .u8 ((k : Int) + 1))] (by simp [hvr9_0, hvr9_1, hvr9_2]) (by kernel_rfl)
                          clear hI hvr9_0 hvr9_1 hvr9_2
                          subst ha
                          simp only [List.foldl_cons, List.foldl_nil, List.setIfInBounds_toArray, List.set_cons_zero, List.set_cons_succ]
                          have Bxr0y0_9 := Lib.hid (hupd.blk (show Blk ws8_0 br0_0 23 (numsA .u8 a) from Bxr0y0_s8_0.out) (fun h => h))
                          have Bxr0y1_9 := Lib.hid (hupd.blk (show Blk ws8_0 br0_1 23 (numsA .u8 b) from Bxr0y1_s8_0.out) (fun h => h))
                          have Bxr2y6_9 := Lib.hid (hupd.blk (show Blk ws8_0 br2_6 41 ar2_2 from Bxr2y6_s8_0.out) (fun h => h))
                          have Bxr2y7_9 := Lib.hid (hupd.blk (show Blk ws8_0 br2_7 41 ar2_5 from Bxr2y7_s8_0.out) (fun h => h))
                          have Bxr3y4_9 := Lib.hid (hupd.blk (show Blk ws8_0 br3_4 41 ar3_3 from Bxr3y4_s8_0.out) (fun h => h))
                          have Bxr5y1_9 := Lib.hid (hupd.blk (show Blk ws8_0 br5_1 41 ar8_3 from Bxr5y1_s8_0.out) (fun h => h))
                          have HU9 := Lib.hid (HU8_0.out.trans hupd)
                          clear hupd
                          refine wpOps_nil ?_
                          exact ⟨⟨k + 1, _, _, _, _, _, _, _, _, _, _, _, Nat.succ_le_of_lt Hlt10.out, rfl, HU9.out, Bxr5y1_9.out, hCr8_3.to (rfl), Bxr0y0_9.out, Bxr0y1_9.out, Bxr2y6_9.out, Bxr2y7_9.out, Bxr3y4_9.out⟩, by show ((n % 20).toNat) - ((k : Int) + 1).toNat < ((n % 20).toNat) - (k : Int).toNat; have := Hlt10.out; omega⟩
                  · obtain rfl : k = (n % 20).toNat := by omega
                    clear hlt
                    refine wp_seq_k fun K14 hK14 => ?_
                    refine wp_seq_k fun K15 hK15 => ?_
                    have hq10_3 : decide ((((((n % 20).toNat : Nat) : Int) : Int) < (n % 20) : Prop)) = false := decide_eq_false (by omega)
                    refine wp_region_qS 4 #[true, true, true, true] [] ([.val (.int .u8 (((n % 20).toNat : Nat) : Int)), .val (.int .u8 n), .val (.int .u8 (n % 20)), .val (.bool false)] : List SQ) (by kernel_rfl) (by kernel_rfl) (by kernel_rfl) ?_ ?_
                    · intro i o listed an wn ho hls hst hun hdep hI hpre K' hK'
                      have hi : i = 0 ∨ i = 1 ∨ i = 2 ∨ i = 3 ∨ False := slot_cases (l := [0, 1, 2, 3]) rfl ho hst
                      rcases hi with rfl | rfl | rfl | rfl | hi
                      · obtain rfl := Option.some.inj ho
                        have hvp : an.eval (.tmp 11) = .int .u8 (((n % 20).toNat : Nat) : Int) := hI.oldQ (by kernel_rfl) rfl
                        exact hI.pureQ (by kernel_rfl) hls rfl rfl rfl (.int .u8 (((n % 20).toNat : Nat) : Int)) (run_moveQ (.inl rfl) hvp wn) (.val (.int .u8 (((n % 20).toNat : Nat) : Int))) rfl rfl rfl hK'
                      · obtain rfl := Option.some.inj ho
                        have hvp : an.eval (.tmp 2) = .int .u8 n := hI.oldQ (by kernel_rfl) rfl
                        exact hI.pureQ (by kernel_rfl) hls rfl rfl rfl (.int .u8 n) (run_moveQ (.inl rfl) hvp wn) (.val (.int .u8 n)) rfl rfl rfl hK'
                      · obtain rfl := Option.some.inj ho
                        obtain ⟨vp, hvp, hsp⟩ := hI.haveQ 1 _ 62 (.val (.int .u8 n)) rfl rfl rfl (hdep ⟨1, .data⟩ (by simp) rfl)
                        obtain rfl := hsp
                        exact hI.pureQ (by kernel_rfl) hls rfl rfl rfl (.int .u8 (n % 20)) (run_rem rfl (eval_of hvp) rfl (by decide) (Int.tmod_eq_emod_of_nonneg hn.1) wn) (.val (.int .u8 (n % 20))) rfl rfl rfl hK'
                      · obtain rfl := Option.some.inj ho
                        obtain ⟨vp, hvp, hsp⟩ := hI.haveQ 0 _ 61 (.val (.int .u8 (((n % 20).toNat : Nat) : Int))) rfl rfl rfl (hdep ⟨0, .data⟩ (by simp) rfl)
                        obtain rfl := hsp
                        obtain ⟨vq, hvq, hsq⟩ := hI.haveQ 2 _ 63 (.val (.int .u8 (n % 20))) rfl rfl rfl (hdep ⟨2, .data⟩ (by simp) rfl)
                        obtain rfl := hsq
                        exact hI.pureQ (by kernel_rfl) hls rfl rfl rfl (.bool false) (run_lss rfl (eval_of hvp) (eval_of hvq) hq10_3 wn) (.val (.bool false)) rfl rfl rfl hK'
                      · exact hi.elim
                    · intro an w11 hI
                      obtain ⟨vr10_0, hvr10_0, hsr10_0⟩ := hI.haveQ 0 _ 61 (.val (.int .u8 (((n % 20).toNat : Nat) : Int))) rfl rfl rfl rfl
                      obtain rfl := hsr10_0
                      obtain ⟨vr10_1, hvr10_1, hsr10_1⟩ := hI.haveQ 1 _ 62 (.val (.int .u8 n)) rfl rfl rfl rfl
                      obtain rfl := hsr10_1
                      obtain ⟨vr10_2, hvr10_2, hsr10_2⟩ := hI.haveQ 2 _ 63 (.val (.int .u8 (n % 20))) rfl rfl rfl rfl
                      obtain rfl := hsr10_2
                      obtain ⟨vr10_3, hvr10_3, hsr10_3⟩ := hI.haveQ 3 _ 64 (.val (.bool false)) rfl rfl rfl rfl
                      obtain rfl := hsr10_3
                      have hupd := hI.upd
                      have ha := hI.act [(61, .int .u8 (((n % 20).toNat : Nat) : Int)), (62, .int .u8 n), (63, .int .u8 (n % 20)), (64, .bool false)] (by simp [hvr10_0, hvr10_1, hvr10_2, hvr10_3]) (by kernel_rfl)
                      clear hI hvr10_0 hvr10_1 hvr10_2 hvr10_3
                      subst ha
                      simp only [List.foldl_cons, List.foldl_nil, List.setIfInBounds_toArray, List.set_cons_zero, List.set_cons_succ]
                      have Bxr0y0_10 := Lib.hid (hupd.blk (show Blk wl10 br0_0 23 (numsA .u8 a) from Bxr0y0_l10.out) (fun h => h))
                      have Bxr0y1_10 := Lib.hid (hupd.blk (show Blk wl10 br0_1 23 (numsA .u8 b) from Bxr0y1_l10.out) (fun h => h))
                      have Bxr2y6_10 := Lib.hid (hupd.blk (show Blk wl10 br2_6 41 ar2_2 from Bxr2y6_l10.out) (fun h => h))
                      have Bxr2y7_10 := Lib.hid (hupd.blk (show Blk wl10 br2_7 41 ar2_5 from Bxr2y7_l10.out) (fun h => h))
                      have Bxr3y4_10 := Lib.hid (hupd.blk (show Blk wl10 br3_4 41 ar3_3 from Bxr3y4_l10.out) (fun h => h))
                      have Bxr5y1_10 := Lib.hid (hupd.blk (show Blk wl10 br5_1 41 A10_10 from Bxr5y1_l10.out) (fun h => h))
                      have HU10 := Lib.hid (HUl10.out.trans hupd)
                      clear hupd
                      refine wpOps_nil ?_
                      refine hK15 _ _ ?_
                      clear hK15
                      refine wp_cond_false rfl ?_
                      refine wp_exit_then ?_
                      refine hK8 _ _ ?_
                      clear hK8
                      refine wp_seq_k fun K16 hK16 => ?_
                      refine wp_region_q #[true, true, true, true, true, true, true, true] ([.val (.agg A10_10), .val (.agg ar2_2), .val (.int .u8 n), .val (.int .u8 (n % 20)), .val (.agg (numsA .u8 ((n % 20) :: List.replicate 31 0))), .like (IsC 20 RP [some ((eB.times (expo a)).times (expo ((n % 20) :: List.replicate 31 0)))]), .val (.bool (edEq ((eB.times (expo a)).times ((n % 20).toNat)) ((eB.times (expo a)).times (expo ((n % 20) :: List.replicate 31 0))))), .val (.bool (edEq ((eB.times (expo a)).times ((n % 20).toNat)) ((eB.times (expo a)).times (expo ((n % 20) :: List.replicate 31 0)))))] : List SQ) (by kernel_rfl) (by kernel_rfl) (by kernel_rfl) ?_ ?_
                      · intro i o listed an wn ho hls hst hun hdep hI K' hK'
                        have hi : i = 0 ∨ i = 1 ∨ i = 2 ∨ i = 3 ∨ i = 4 ∨ i = 5 ∨ i = 6 ∨ i = 7 ∨ False := slot_cases (l := [0, 1, 2, 3, 4, 5, 6, 7]) rfl ho hst
                        rcases hi with rfl | rfl | rfl | rfl | rfl | rfl | rfl | rfl | hi
                        · obtain rfl := Option.some.inj ho
                          have hvp : an.eval (.tmp 10) = ptrTo br5_1 := hI.oldQ (by kernel_rfl) rfl
                          exact hI.pureQ (by kernel_rfl) hls rfl rfl rfl _ (run_loadQ rfl hvp wn (hI.upd.blk (show Blk w11.drew br5_1 41 A10_10 from Bxr5y1_10.out) (fun h => h)) Tryd.underlying41 rfl szPt (by rw [hcl10.size]; exact Nat.le_of_ble_eq_true rfl)) (.val (.agg A10_10)) rfl (congrArg Value.agg (extract_all _ 20 hcl10.size)) rfl hK'
                        · obtain rfl := Option.some.inj ho
                          have hvp : an.eval (.tmp 7) = ptrTo br2_6 := hI.oldQ (by kernel_rfl) rfl
                          exact hI.pureQ (by kernel_rfl) hls rfl rfl rfl _ (run_loadQ rfl hvp wn (hI.upd.blk (show Blk w11.drew br2_6 41 ar2_2 from Bxr2y6_10.out) (fun h => h)) Tryd.underlying41 rfl szPt (by rw [hCr2_2.size]; exact Nat.le_of_ble_eq_true rfl)) (.val (.agg ar2_2)) rfl (congrArg Value.agg (extract_all _ 20 hCr2_2.size)) rfl hK'
                        · obtain rfl := Option.some.inj ho
                          have hvp : an.eval (.tmp 2) = .int .u8 n := hI.oldQ (by kernel_rfl) rfl
                          exact hI.pureQ (by kernel_rfl) hls rfl rfl rfl (.int .u8 n) (run_moveQ (.inl rfl) hvp wn) (.val (.int .u8 n)) rfl rfl rfl hK'
                        · obtain rfl := Option.some.inj ho
                          obtain ⟨vp, hvp, hsp⟩ := hI.haveQ 2 _ 73 (.val (.int .u8 n)) rfl rfl rfl (hdep ⟨2, .data⟩ (by simp) rfl)
                          obtain rfl := hsp
                          exact hI.pureQ (by kernel_rfl) hls rfl rfl rfl (.int .u8 (n % 20)) (run_rem rfl (eval_of hvp) rfl (by decide) (Int.tmod_eq_emod_of_nonneg hn.1) wn) (.val (.int .u8 (n % 20))) rfl rfl rfl hK'
                        · obtain rfl := Option.some.inj ho
                          obtain ⟨vp, hvp, hsp⟩ := hI.haveQ 3 _ 74 (.val (.int .u8 (n % 20))) rfl rfl rfl (hdep ⟨3, .data⟩ (by simp) rfl)
                          obtain rfl := hsp
                          exact hI.pureQ (by kernel_rfl) hls rfl rfl rfl (.agg (numsA .u8 ((n % 20) :: List.replicate 31 0))) (run_buildK1 rfl (eval_of hvp) wn) (.val (.agg (numsA .u8 ((n % 20) :: List.replicate 31 0)))) rfl rfl rfl hK'
                        · obtain rfl := Option.some.inj ho
                          obtain ⟨vp, hvp, hsp⟩ := hI.haveQ 1 _ 72 (.val (.agg ar2_2)) rfl rfl rfl (hdep ⟨1, .data⟩ (by simp) rfl)
                          obtain rfl := hsp
                          obtain ⟨vq, hvq, hsq⟩ := hI.haveQ 4 _ 75 (.val (.agg (numsA .u8 ((n % 20) :: List.replicate 31 0)))) rfl rfl rfl (hdep ⟨4, .data⟩ (by simp) rfl)
                          obtain rfl := hsq
                          exact hI.callQ (by kernel_rfl) hls rfl rfl rfl 36 #[.tmp 72, .tmp 75] _ rfl #[.agg ar2_2, .agg (numsA .u8 ((n % 20) :: List.replicate 31 0))] (by simp [eval_of hvp, eval_of hvq]) (run_enter Tryd.func36 (by kernel_rfl) (by kernel_rfl)) (.like (IsC 20 RP [some ((eB.times (expo a)).times (expo ((n % 20) :: List.replicate 31 0)))])) rfl rfl ((multiplyR _ (HT.out.upd (HU10.out.drew.trans hI.upd)) hCr2_2 rfl (digs_one (by omega))).mono fun _ _ h => h.sq) hK'
                        · obtain rfl := Option.some.inj ho
                          obtain ⟨vp, hvp, hsp⟩ := hI.haveQ 0 _ 71 (.val (.agg A10_10)) rfl rfl rfl (hdep ⟨0, .data⟩ (by simp) rfl)
                          obtain rfl := hsp
                          obtain ⟨vq, hvq, aq, rfl, hCq⟩ := hI.haveQ 5 _ 76 (.like (IsC 20 RP [some ((eB.times (expo a)).times (expo ((n % 20) :: List.replicate 31 0)))])) rfl rfl rfl (hdep ⟨5, .data⟩ (by simp) rfl)
                          exact hI.callQ (by kernel_rfl) hls rfl rfl rfl 31 #[.tmp 71, .tmp 76] _ rfl #[.agg A10_10, .agg aq] (by simp [eval_of hvp, eval_of hvq]) (run_enter Tryd.func31 (by kernel_rfl) (by kernel_rfl)) (.val (.bool (edEq ((eB.times (expo a)).times ((n % 20).toNat)) ((eB.times (expo a)).times (expo ((n % 20) :: List.replicate 31 0)))))) rfl rfl ((equalR _ hcl10 hCq).mono fun _ _ h => ret_val h) hK'
                        · obtain rfl := Option.some.inj ho
                          obtain ⟨vp, hvp, hsp⟩ := hI.haveQ 6 _ 77 (.val (.bool (edEq ((eB.times (expo a)).times ((n % 20).toNat)) ((eB.times (expo a)).times (expo ((n % 20) :: List.replicate 31 0)))))) rfl rfl rfl (hdep ⟨6, .data⟩ (by simp) rfl)
                          obtain rfl := hsp
                          exact hI.pureQ (by kernel_rfl) hls rfl rfl rfl (.bool (edEq ((eB.times (expo a)).times ((n % 20).toNat)) ((eB.times (expo a)).times (expo ((n % 20) :: List.replicate 31 0))))) (run_moveQ (.inr rfl) (eval_of hvp) wn) (.val (.bool (edEq ((eB.times (expo a)).times ((n % 20).toNat)) ((eB.times (expo a)).times (expo ((n % 20) :: List.replicate 31 0)))))) rfl rfl rfl hK'
                        · exact hi.elim
                      · intro fuel an w12 hf hI
                        obtain ⟨vr11_0, hvr11_0, hsr11_0⟩ := hI.haveQ 0 _ 71 (.val (.agg A10_10)) rfl rfl rfl rfl
                        obtain rfl := hsr11_0
                        obtain ⟨vr11_1, hvr11_1, hsr11_1⟩ := hI.haveQ 1 _ 72 (.val (.agg ar2_2)) rfl rfl rfl rfl
                        obtain rfl := hsr11_1
                        obtain ⟨vr11_2, hvr11_2, hsr11_2⟩ := hI.haveQ 2 _ 73 (.val (.int .u8 n)) rfl rfl rfl rfl
                        obtain rfl := hsr11_2
                        obtain ⟨vr11_3, hvr11_3, hsr11_3⟩ := hI.haveQ 3 _ 74 (.val (.int .u8 (n % 20))) rfl rfl rfl rfl
                        obtain rfl := hsr11_3
                        obtain ⟨vr11_4, hvr11_4, hsr11_4⟩ := hI.haveQ 4 _ 75 (.val (.agg (numsA .u8 ((n % 20) :: List.replicate 31 0)))) rfl rfl rfl rfl
                        obtain rfl := hsr11_4
                        obtain ⟨vr11_5, hvr11_5, ar11_5, rfl, hCr11_5⟩ := hI.haveQ 5 _ 76 (.like (IsC 20 RP [some ((eB.times (expo a)).times (expo ((n % 20) :: List.replicate 31 0)))])) rfl rfl rfl rfl
                        obtain ⟨vr11_6, hvr11_6, hsr11_6⟩ := hI.haveQ 6 _ 77 (.val (.bool (edEq ((eB.times (expo a)).times ((n % 20).toNat)) ((eB.times (expo a)).times (expo ((n % 20) :: List.replicate 31 0)))))) rfl rfl rfl rfl
                        obtain rfl := hsr11_6
                        obtain ⟨vr11_7, hvr11_7, hsr11_7⟩ := hI.haveQ 7 _ 6 (.val (.bool (edEq ((eB.times (expo a)).times ((n % 20).toNat)) ((eB.times (expo a)).times (expo ((n % 20) :: List.replicate 31 0)))))) rfl rfl rfl rfl
                        obtain rfl := hsr11_7
                        have hupd := hI.upd
                        have ha := hI.act [(71, .agg A10_10), (72, .agg ar2_2), (73, .int .u8 n), (74, .int .u8 (n % 20)), (75, .agg (numsA .u8 ((n % 20) :: List.replicate 31 0))), (76, .agg ar11_5), (77, .bool (edEq ((eB.times (expo a)).times ((n % 20).toNat)) ((eB.times (expo a)).times (expo ((n % 20) :: List.replicate 31 0))))), (6, .bool (edEq ((eB.times (expo a)).times ((n % 20).toNat)) ((eB.times (expo a)).times (expo ((n % 20) :: List.replicate 31 0)))))] (by simp [hvr11_0, hvr11_1, hvr11_2, hvr11_3, hvr11_4, hvr11_5, hvr11_6, hvr11_7]) (by kernel_rfl)
                        clear hI hvr11_0 hvr11_1 hvr11_2 hvr11_3 hvr11_4 hvr11_5 hvr11_6 hvr11_7
                        subst ha
                        simp only [List.foldl_cons, List.foldl_nil, List.setIfInBounds_toArray, List.set_cons_zero, List.set_cons_succ]
                        have Bxr0y0_11 := Lib.hid (hupd.blk (show Blk w11.drew br0_0 23 (numsA .u8 a) from Bxr0y0_10.out) (fun h => h))
                        have Bxr0y1_11 := Lib.hid (hupd.blk (show Blk w11.drew br0_1 23 (numsA .u8 b) from Bxr0y1_10.out) (fun h => h))
                        have Bxr2y6_11 := Lib.hid (hupd.blk (show Blk w11.drew br2_6 41 ar2_2 from Bxr2y6_10.out) (fun h => h))
                        have Bxr2y7_11 := Lib.hid (hupd.blk (show Blk w11.drew br2_7 41 ar2_5 from Bxr2y7_10.out) (fun h => h))
                        have Bxr3y4_11 := Lib.hid (hupd.blk (show Blk w11.drew br3_4 41 ar3_3 from Bxr3y4_10.out) (fun h => h))
                        have Bxr5y1_11 := Lib.hid (hupd.blk (show Blk w11.drew br5_1 41 A10_10 from Bxr5y1_10.out) (fun h => h))
                        have HU11 := Lib.hid (HU10.out.drew.trans hupd)
                        clear hupd
                        refine wpAny_done (by kernel_rfl) ?_ _
                        refine hK16 _ _ ?_
                        clear hK16
                        refine wp_ret ?_
                        try dsimp only [Exit.then]
                        try dsimp only [Exit.inBlock]
                        exact bodyPost_ret (v := .bool (edEq ((eB.times (expo a)).times ((n % 20).toNat)) ((eB.times (expo a)).times (expo ((n % 20) :: List.replicate 31 0))))) (results_tmpQ (fn := Tryd.f11) (t := 6) rfl _ _ (.bool (edEq ((eB.times (expo a)).times ((n % 20).toNat)) ((eB.times (expo a)).times (expo ((n % 20) :: List.replicate 31 0))))) rfl) rfl ⟨rfl, HU11.out⟩
set_option maxHeartbeats 4000000 in
theorem prulesF {a b : List Int} {n : Int} (w : World) (hT : Tw w) (ha : a.length = 32) (da : Digs 256 a) (hb : b.length = 32) (db : Digs 256 b) (hn : 0 ≤ n ∧ n < 256) (hq : edEq (eB.times (expo a)) (eB.times (expo b)) = false) :
    Calls Tryd.prog 11 #[.agg (numsA .u8 a), .agg (numsA .u8 b), .int .u8 n] w fun e w' => e = .returned (.bool (edEq ((eB.times (expo a)).times ((n % 20).toNat)) ((eB.times (expo a)).times (expo ((n % 20) :: List.replicate 31 0))))) ∧ Upd (fun _ => False) w w' := by
  have HT := Lib.hid hT
  clear hT
  have HU := Lib.hid (Upd.refl (fun _ => False) w)
  go_enter Tryd.func11, Tryd.ntmps11
  refine wp_seq_k fun K0 hK0 => ?_
  refine wp_region_qS 3 #[true, true, true] [] ([.blk ptrTo 23 (fun z => z = numsA .u8 a), .blk ptrTo 23 (fun z => z = numsA .u8 b), .val (.bool false)] : List SQ) (by kernel_rfl) (by kernel_rfl) (by kernel_rfl) ?_ ?_
  · intro i o listed an wn ho hls hst hun hdep hI hpre K' hK'
    have hi : i = 0 ∨ i = 1 ∨ i = 2 ∨ False := slot_cases (l := [0, 1, 2]) rfl ho hst
    rcases hi with rfl | rfl | rfl | hi
    · obtain rfl := Option.some.inj ho
      have hvp : an.eval (.tmp 0) = .agg (numsA .u8 a) := hI.oldQ (by kernel_rfl) rfl
      exact hI.newQ (by kernel_rfl) hls (Nat.le_refl _) (newsQ_spec (l := [0, 1]) (by kernel_rfl) ⟨⟨_, _, rfl⟩, ⟨_, _, rfl⟩, trivial⟩) rfl rfl rfl 23 _ (fun z => z = numsA .u8 a) (run_boxQ rfl hvp wn) rfl rfl hK'
    · obtain rfl := Option.some.inj ho
      have hvp : an.eval (.tmp 1) = .agg (numsA .u8 b) := hI.oldQ (by kernel_rfl) rfl
      exact hI.newQ (by kernel_rfl) hls (Nat.le_refl _) (newsQ_spec (l := [0, 1]) (by kernel_rfl) ⟨⟨_, _, rfl⟩, ⟨_, _, rfl⟩, trivial⟩) rfl rfl rfl 23 _ (fun z => z = numsA .u8 b) (run_boxQ rfl hvp wn) rfl rfl hK'
    · obtain rfl := Option.some.inj ho
      exact hI.pureQ (by kernel_rfl) hls rfl rfl rfl (.bool false) (run_moveQ (.inr rfl) (show an.eval (.const (.bool false)) = .bool false from rfl) wn) (.val (.bool false)) rfl rfl rfl hK'
    · exact hi.elim
  · intro an w1 hI
    obtain ⟨vr0_0, hvr0_0, br0_0, zr0_0, rfl, hnr0_0, hbr0_0, hzr0_0⟩ := hI.haveQ 0 _ 3 (.blk ptrTo 23 (fun z => z = numsA .u8 a)) rfl rfl rfl rfl
    rw [hzr0_0] at hbr0_0
    clear hzr0_0
    obtain ⟨vr0_1, hvr0_1, br0_1, zr0_1, rfl, hnr0_1, hbr0_1, hzr0_1⟩ := hI.haveQ 1 _ 4 (.blk ptrTo 23 (fun z => z = numsA .u8 b)) rfl rfl rfl rfl
    rw [hzr0_1] at hbr0_1
    clear hzr0_1
    obtain ⟨vr0_2, hvr0_2, hsr0_2⟩ := hI.haveQ 2 _ 6 (.val (.bool false)) rfl rfl rfl rfl
    obtain rfl := hsr0_2
    have hupd := hI.upd
    have hner0_0_r0_1 := Lib.hid (show br0_0 ≠ br0_1 from fun e => hI.apart 0 1 _ _ 3 4 (by omega) rfl rfl rfl rfl rfl rfl rfl rfl (by rw [hvr0_0, hvr0_1, e]))
    have ha := hI.act [(3, ptrTo br0_0), (4, ptrTo br0_1), (6, .bool false)] (by simp [hvr0_0, hvr0_1, hvr0_2]) (by kernel_rfl)
    clear hI hvr0_0 hvr0_1 hvr0_2
    subst ha
    simp only [List.foldl_cons, List.foldl_nil, List.setIfInBounds_toArray, List.set_cons_zero, List.set_cons_succ]
    have hger0_0 := Lib.hid (Nat.le_trans HU.out.size hnr0_0)
    have hger0_1 := Lib.hid (Nat.le_trans HU.out.size hnr0_1)
    have Bxr0y0 := Lib.hid hbr0_0
    have Bxr0y1 := Lib.hid hbr0_1
    have HU0 := Lib.hid (HU.out.trans hupd)
    clear hupd
    refine wpOps_nil ?_
    refine hK0 _ _ ?_
    clear hK0
    refine wp_seq_k fun K1 hK1 => ?_
    refine wp_seq_k fun K2 hK2 => ?_
    refine wp_region_qS 2 #[true, true] [] ([.val (.bool true), .val (.bool false)] : List SQ) (by kernel_rfl) (by kernel_rfl) (by kernel_rfl) ?_ ?_
    · intro i o listed an wn ho hls hst hun hdep hI hpre K' hK'
      have hi : i = 0 ∨ i = 1 ∨ False := slot_cases (l := [0, 1]) rfl ho hst
      rcases hi with rfl | rfl | hi
      · obtain rfl := Option.some.inj ho
        exact hI.callQ (by kernel_rfl) hls rfl rfl rfl 23 #[] _ rfl #[] (by simp) (run_enter Tryd.func23 (by kernel_rfl) (by kernel_rfl)) (.val (.bool true)) rfl rfl ((basedL _ (HT.out.upd (HU0.out.trans hI.upd))).mono fun _ _ h => ret_val h) hK'
      · obtain rfl := Option.some.inj ho
        obtain ⟨vp, hvp, hsp⟩ := hI.haveQ 0 _ 12 (.val (.bool true)) rfl rfl rfl (hdep ⟨0, .data⟩ (by simp) rfl)
        obtain rfl := hsp
        exact hI.pureQ (by kernel_rfl) hls rfl rfl rfl (.bool false) (run_not rfl (eval_of hvp) wn) (.val (.bool false)) rfl rfl rfl hK'
      · exact hi.elim
    · intro an w2 hI
      obtain ⟨vr1_0, hvr1_0, hsr1_0⟩ := hI.haveQ 0 _ 12 (.val (.bool true)) rfl rfl rfl rfl
      obtain rfl := hsr1_0
      obtain ⟨vr1_1, hvr1_1, hsr1_1⟩ := hI.haveQ 1 _ 13 (.val (.bool false)) rfl rfl rfl rfl
      obtain rfl := hsr1_1
      have hupd := hI.upd
      have ha := hI.act [(12, .bool true), (13, .bool false)] (by simp [hvr1_0, hvr1_1]) (by kernel_rfl)
      clear hI hvr1_0 hvr1_1
      subst ha
      simp only [List.foldl_cons, List.foldl_nil, List.setIfInBounds_toArray, List.set_cons_zero, List.set_cons_succ]
      have Bxr0y0_1 := Lib.hid (hupd.blk (show Blk w1 br0_0 23 (numsA .u8 a) from Bxr0y0.out) (fun h => h))
      have Bxr0y1_1 := Lib.hid (hupd.blk (show Blk w1 br0_1 23 (numsA .u8 b) from Bxr0y1.out) (fun h => h))
      have HU1 := Lib.hid (HU0.out.trans hupd)
      clear hupd
      refine wpOps_nil ?_
      refine hK2 _ _ ?_
      clear hK2
      refine wp_cond_false rfl ?_
      refine wp_skip ?_
      refine hK1 _ _ ?_
      clear hK1
      refine wp_seq_k fun K3 hK3 => ?_
      refine wp_region_q #[true, true, true, true, true, true, true, true, false, false] ([.like (IsC 20 RP [some eB]), .val (.agg (numsA .u8 a)), .like (IsC 20 RP [some (eB.times (expo a))]), .like (IsC 20 RP [some eB]), .val (.agg (numsA .u8 b)), .like (IsC 20 RP [some (eB.times (expo b))]), .blk ptrTo 41 (Ch 20 RP [none]), .blk ptrTo 41 (Ch 20 RP [none]), .val undef, .val undef] : List SQ) (by kernel_rfl) (by kernel_rfl) (by kernel_rfl) ?_ ?_
      · intro i o listed an wn ho hls hst hun hdep hI K' hK'
        have hi : i = 0 ∨ i = 1 ∨ i = 2 ∨ i = 3 ∨ i = 4 ∨ i = 5 ∨ i = 6 ∨ i = 7 ∨ False := slot_cases (l := [0, 1, 2, 3, 4, 5, 6, 7]) rfl ho hst
        rcases hi with rfl | rfl | rfl | rfl | rfl | rfl | rfl | rfl | hi
        · obtain rfl := Option.some.inj ho
          exact hI.callQ (by kernel_rfl) hls rfl rfl rfl 34 #[] _ rfl #[] (by simp) (run_enter Tryd.func34 (by kernel_rfl) (by kernel_rfl)) (.like (IsC 20 RP [some eB])) rfl rfl ((baseR _ ).mono fun _ _ h => h.sq) hK'
        · obtain rfl := Option.some.inj ho
          have hvp : an.eval (.tmp 3) = ptrTo br0_0 := hI.oldQ (by kernel_rfl) rfl
          exact hI.pureQ (by kernel_rfl) hls rfl rfl rfl _ (run_loadQ rfl hvp wn (hI.upd.blk (show Blk w2.drew br0_0 23 (numsA .u8 a) from Bxr0y0_1.out) (fun h => h)) Tryd.underlying23 rfl sizeKey (by rw [numsA_size, ha]; omega)) (.val (.agg (numsA .u8 a))) rfl (congrArg Value.agg (extract_all _ 32 (by rw [numsA_size]; exact ha))) rfl hK'
        · obtain rfl := Option.some.inj ho
          obtain ⟨vp, hvp, ap, rfl, hCp⟩ := hI.haveQ 0 _ 14 (.like (IsC 20 RP [some eB])) rfl rfl rfl (hdep ⟨0, .data⟩ (by simp) rfl)
          obtain ⟨vq, hvq, hsq⟩ := hI.haveQ 1 _ 15 (.val (.agg (numsA .u8 a))) rfl rfl rfl (hdep ⟨1, .data⟩ (by simp) rfl)
          obtain rfl := hsq
          exact hI.callQ (by kernel_rfl) hls rfl rfl rfl 36 #[.tmp 14, .tmp 15] _ rfl #[.agg ap, .agg (numsA .u8 a)] (by simp [eval_of hvp, eval_of hvq]) (run_enter Tryd.func36 (by kernel_rfl) (by kernel_rfl)) (.like (IsC 20 RP [some (eB.times (expo a))])) rfl rfl ((multiplyR _ (HT.out.upd (HU1.out.drew.trans hI.upd)) hCp ha da).mono fun _ _ h => h.sq) hK'
        · obtain rfl := Option.some.inj ho
          exact hI.callQ (by kernel_rfl) hls rfl rfl rfl 34 #[] _ rfl #[] (by simp) (run_enter Tryd.func34 (by kernel_rfl) (by kernel_rfl)) (.like (IsC 20 RP [some eB])) rfl rfl ((baseR _ ).mono fun _ _ h => h.sq) hK'
        · obtain rfl := Option.some.inj ho
          have hvp : an.eval (.tmp 4) = ptrTo br0_1 := hI.oldQ (by kernel_rfl) rfl
          exact hI.pureQ (by kernel_rfl) hls rfl rfl rfl _ (run_loadQ rfl hvp wn (hI.upd.blk (show Blk w2.drew br0_1 23 (numsA .u8 b) from Bxr0y1_1.out) (fun h => h)) Tryd.underlying23 rfl sizeKey (by rw [numsA_size, hb]; omega)) (.val (.agg (numsA .u8 b))) rfl (congrArg Value.agg (extract_all _ 32 (by rw [numsA_size]; exact hb))) rfl hK'
        · obtain rfl := Option.some.inj ho
          obtain ⟨vp, hvp, ap, rfl, hCp⟩ := hI.haveQ 3 _ 17 (.like (IsC 20 RP [some eB])) rfl rfl rfl (hdep ⟨3, .data⟩ (by simp) rfl)
          obtain ⟨vq, hvq, hsq⟩ := hI.haveQ 4 _ 18 (.val (.agg (numsA .u8 b))) rfl rfl rfl (hdep ⟨4, .data⟩ (by simp) rfl)
          obtain rfl := hsq
          exact hI.callQ (by kernel_rfl) hls rfl rfl rfl 36 #[.tmp 17, .tmp 18] _ rfl #[.agg ap, .agg (numsA .u8 b)] (by simp [eval_of hvp, eval_of hvq]) (run_enter Tryd.func36 (by kernel_rfl) (by kernel_rfl)) (.like (IsC 20 RP [some (eB.times (expo b))])) rfl rfl ((multiplyR _ (HT.out.upd (HU1.out.drew.trans hI.upd)) hCp hb db).mono fun _ _ h => h.sq) hK'
        · obtain rfl := Option.some.inj ho
          exact hI.newQ (by kernel_rfl) hls (Nat.le_refl _) (newsQ_spec (l := [6, 7]) (by kernel_rfl) ⟨⟨_, _, rfl⟩, ⟨_, _, rfl⟩, trivial⟩) rfl rfl rfl 41 zPt _ (run_allocQ rfl zPt_run wn) rfl zPt_p hK'
        · obtain rfl := Option.some.inj ho
          exact hI.newQ (by kernel_rfl) hls (Nat.le_refl _) (newsQ_spec (l := [6, 7]) (by kernel_rfl) ⟨⟨_, _, rfl⟩, ⟨_, _, rfl⟩, trivial⟩) rfl rfl rfl 41 zPt _ (run_allocQ rfl zPt_run wn) rfl zPt_p hK'
        · exact hi.elim
      · intro fuel an w3 hf hI
        obtain ⟨vr2_0, hvr2_0, ar2_0, rfl, hCr2_0⟩ := hI.haveQ 0 _ 14 (.like (IsC 20 RP [some eB])) rfl rfl rfl rfl
        obtain ⟨vr2_1, hvr2_1, hsr2_1⟩ := hI.haveQ 1 _ 15 (.val (.agg (numsA .u8 a))) rfl rfl rfl rfl
        obtain rfl := hsr2_1
        obtain ⟨vr2_2, hvr2_2, ar2_2, rfl, hCr2_2⟩ := hI.haveQ 2 _ 16 (.like (IsC 20 RP [some (eB.times (expo a))])) rfl rfl rfl rfl
        obtain ⟨vr2_3, hvr2_3, ar2_3, rfl, hCr2_3⟩ := hI.haveQ 3 _ 17 (.like (IsC 20 RP [some eB])) rfl rfl rfl rfl
        obtain ⟨vr2_4, hvr2_4, hsr2_4⟩ := hI.haveQ 4 _ 18 (.val (.agg (numsA .u8 b))) rfl rfl rfl rfl
        obtain rfl := hsr2_4
        obtain ⟨vr2_5, hvr2_5, ar2_5, rfl, hCr2_5⟩ := hI.haveQ 5 _ 19 (.like (IsC 20 RP [some (eB.times (expo b))])) rfl rfl rfl rfl
        obtain ⟨vr2_6, hvr2_6, br2_6, zr2_6, rfl, hnr2_6, hbr2_6, hzr2_6⟩ := hI.haveQ 6 _ 7 (.blk ptrTo 41 (Ch 20 RP [none])) rfl rfl rfl rfl
        obtain ⟨vr2_7, hvr2_7, br2_7, zr2_7, rfl, hnr2_7, hbr2_7, hzr2_7⟩ := hI.haveQ 7 _ 8 (.blk ptrTo 41 (Ch 20 RP [none])) rfl rfl rfl rfl
        have hupd := hI.upd
        have hner2_6_r2_7 := Lib.hid (show br2_6 ≠ br2_7 from fun e => hI.apart 6 7 _ _ 7 8 (by omega) rfl rfl rfl rfl rfl rfl rfl rfl (by rw [hvr2_6, hvr2_7, e]))
        have ha := hI.act [(14, .agg ar2_0), (15, .agg (numsA .u8 a)), (16, .agg ar2_2), (17, .agg ar2_3), (18, .agg (numsA .u8 b)), (19, .agg ar2_5), (7, ptrTo br2_6), (8, ptrTo br2_7)] (by simp [hvr2_0, hvr2_1, hvr2_2, hvr2_3, hvr2_4, hvr2_5, hvr2_6, hvr2_7]) (by kernel_rfl)
        clear hI hvr2_0 hvr2_1 hvr2_2 hvr2_3 hvr2_4 hvr2_5 hvr2_6 hvr2_7
        subst ha
        simp only [List.foldl_cons, List.foldl_nil, List.setIfInBounds_toArray, List.set_cons_zero, List.set_cons_succ]
        have hner2_6_Bxr0y0_1 := Lib.hid (show br2_6 ≠ br0_0 from Nat.ne_of_gt (Nat.lt_of_lt_of_le Bxr0y0_1.out.lt hnr2_6))
        have hner2_6_Bxr0y1_1 := Lib.hid (show br2_6 ≠ br0_1 from Nat.ne_of_gt (Nat.lt_of_lt_of_le Bxr0y1_1.out.lt hnr2_6))
        have hger2_6 := Lib.hid (Nat.le_trans HU1.out.size hnr2_6)
        have hner2_7_Bxr0y0_1 := Lib.hid (show br2_7 ≠ br0_0 from Nat.ne_of_gt (Nat.lt_of_lt_of_le Bxr0y0_1.out.lt hnr2_7))
        have hner2_7_Bxr0y1_1 := Lib.hid (show br2_7 ≠ br0_1 from Nat.ne_of_gt (Nat.lt_of_lt_of_le Bxr0y1_1.out.lt hnr2_7))
        have hger2_7 := Lib.hid (Nat.le_trans HU1.out.size hnr2_7)
        have Bxr0y0_2 := Lib.hid (hupd.blk (show Blk w2.drew br0_0 23 (numsA .u8 a) from Bxr0y0_1.out) (fun h => h))
        have Bxr0y1_2 := Lib.hid (hupd.blk (show Blk w2.drew br0_1 23 (numsA .u8 b) from Bxr0y1_1.out) (fun h => h))
        have Bxr2y6 := Lib.hid hbr2_6
        have Bxr2y7 := Lib.hid hbr2_7
        have HU2 := Lib.hid (HU1.out.drew.trans hupd)
        clear hupd
        have hf0 : left #[true, true, true, true, true, true, true, true, false, false] 10 = 2 := by kernel_rfl
        have hf1 : left #[true, true, true, true, true, true, true, true, false, false] 10 ≤ fuel := hf
        obtain ⟨fu, rfl⟩ : ∃ fu, fuel = fu + 2 := ⟨fuel - 2, by omega⟩
        clear hf hf0 hf1
        refine wpAny_storeQ 8 rfl (by kernel_rfl) rfl rfl 41 (.tmp 7) (.tmp 16) rfl br2_6 0 20 rfl ar2_2 rfl 41 zr2_6 Bxr2y6.out szPt hCr2_2.size (by rw [hzr2_6.size]; exact Nat.le_of_ble_eq_true rfl) hCr2_2.one' ?_
        intro ws2_0 hs2_0 hus2_0
        rw [splice_all _ _ 20 hzr2_6.size hCr2_2.size] at hs2_0
        have Bxr0y0_s2_0 := Lib.hid (hus2_0.blk Bxr0y0_2.out (fun e => hner2_6_Bxr0y0_1.out e.symm))
        have Bxr0y1_s2_0 := Lib.hid (hus2_0.blk Bxr0y1_2.out (fun e => hner2_6_Bxr0y1_1.out e.symm))
        have Bxr2y7_s2_0 := Lib.hid (hus2_0.blk Bxr2y7.out (fun e => hner2_6_r2_7.out e.symm))
        have Bxr2y6_s2_0 := Lib.hid hs2_0
        have HU2_0 := Lib.hid (HU2.out.step hus2_0 (fun i hi h => absurd hi (Nat.not_lt.2 (h.symm ▸ hger2_6.out))))
        clear hs2_0 hus2_0
        refine wpAny_storeQ 9 rfl (by kernel_rfl) rfl rfl 41 (.tmp 8) (.tmp 19) rfl br2_7 0 20 rfl ar2_5 rfl 41 zr2_7 Bxr2y7_s2_0.out szPt hCr2_5.size (by rw [hzr2_7.size]; exact Nat.le_of_ble_eq_true rfl) hCr2_5.one' ?_
        intro ws2_1 hs2_1 hus2_1
        rw [splice_all _ _ 20 hzr2_7.size hCr2_5.size] at hs2_1
        have Bxr0y0_s2_1 := Lib.hid (hus2_1.blk Bxr0y0_s2_0.out (fun e => hner2_7_Bxr0y0_1.out e.symm))
        have Bxr0y1_s2_1 := Lib.hid (hus2_1.blk Bxr0y1_s2_0.out (fun e => hner2_7_Bxr0y1_1.out e.symm))
        have Bxr2y6_s2_1 := Lib.hid (hus2_1.blk Bxr2y6_s2_0.out (fun e => hner2_6_r2_7.out e))
        have Bxr2y7_s2_1 := Lib.hid hs2_1
        have HU2_1 := Lib.hid (HU2_0.out.step hus2_1 (fun i hi h => absurd hi (Nat.not_lt.2 (h.symm ▸ hger2_7.out))))
        clear hs2_1 hus2_1
        refine wpAny_done (by kernel_rfl) ?_ _
        refine hK3 _ _ ?_
        clear hK3
        refine wp_seq_k fun K4 hK4 => ?_
        refine wp_region_qS 5 #[true, true, true, true, true, false] [5] ([.val (.agg ar2_2), .val (.agg ar2_5), .blk (fun b => .slice (some ⟨b, 0, none⟩) 2 2) 41 (Ch 20 RP [some (eB.times (expo a)), some (eB.times (expo b))]), .like (IsC 20 RP [some ((eB.times (expo a)).plus (eB.times (expo b)))]), .blk ptrTo 41 (Ch 20 RP [none]), .val undef] : List SQ) (by kernel_rfl) (by kernel_rfl) (by kernel_rfl) ?_ ?_
        · intro i o listed an wn ho hls hst hun hdep hI hpre K' hK'
          have hi : i = 0 ∨ i = 1 ∨ i = 2 ∨ i = 3 ∨ i = 4 ∨ False := slot_cases (l := [0, 1, 2, 3, 4]) rfl ho hst
          rcases hi with rfl | rfl | rfl | rfl | rfl | hi
          · obtain rfl := Option.some.inj ho
            have hvp : an.eval (.tmp 7) = ptrTo br2_6 := hI.oldQ (by kernel_rfl) rfl
            exact hI.pureQ (by kernel_rfl) hls rfl rfl rfl _ (run_loadQ rfl hvp wn (hI.upd.blk (show Blk ws2_1 br2_6 41 ar2_2 from Bxr2y6_s2_1.out) (fun h => h)) Tryd.underlying41 rfl szPt (by rw [hCr2_2.size]; exact Nat.le_of_ble_eq_true rfl)) (.val (.agg ar2_2)) rfl (congrArg Value.agg (extract_all _ 20 hCr2_2.size)) rfl hK'
          · obtain rfl := Option.some.inj ho
            have hvp : an.eval (.tmp 8) = ptrTo br2_7 := hI.oldQ (by kernel_rfl) rfl
            exact hI.pureQ (by kernel_rfl) hls rfl rfl rfl _ (run_loadQ rfl hvp wn (hI.upd.blk (show Blk ws2_1 br2_7 41 ar2_5 from Bxr2y7_s2_1.out) (fun h => h)) Tryd.underlying41 rfl szPt (by rw [hCr2_5.size]; exact Nat.le_of_ble_eq_true rfl)) (.val (.agg ar2_5)) rfl (congrArg Value.agg (extract_all _ 20 hCr2_5.size)) rfl hK'
          · obtain rfl := Option.some.inj ho
            obtain ⟨vp, hvp, hsp⟩ := hI.haveQ 0 _ 20 (.val (.agg ar2_2)) rfl rfl rfl (hdep ⟨0, .data⟩ (by simp) rfl)
            obtain rfl := hsp
            obtain ⟨vq, hvq, hsq⟩ := hI.haveQ 1 _ 21 (.val (.agg ar2_5)) rfl rfl rfl (hdep ⟨1, .data⟩ (by simp) rfl)
            obtain rfl := hsq
            exact hI.rowQ (by kernel_rfl) hls (Nat.le_refl _) rfl rfl rfl _ _ _ _ (run_pts2 rfl (eval_of hvp) (eval_of hvq) hCr2_2.size hCr2_5.size wn) rfl (hCr2_2.cat hCr2_5) rfl hK'
          · obtain rfl := Option.some.inj ho
            obtain ⟨vp, hvp, bp, zp, rfl, hnp, hbp, hzp⟩ := hI.haveQ 2 _ 22 (.blk (fun b => .slice (some ⟨b, 0, none⟩) 2 2) 41 (Ch 20 RP [some (eB.times (expo a)), some (eB.times (expo b))])) rfl rfl rfl (hdep ⟨2, .data⟩ (by simp) rfl)
            exact hI.callQ (by kernel_rfl) hls rfl rfl rfl 28 #[.tmp 22] _ rfl #[.slice (some ⟨bp, 0, none⟩) 2 2] (by simp [eval_of hvp]) (run_enter Tryd.func28 (by kernel_rfl) (by kernel_rfl)) (.like (IsC 20 RP [some ((eB.times (expo a)).plus (eB.times (expo b)))])) rfl rfl ((addR2 _ (HT.out.upd (HU2_1.out.trans hI.upd)) hbp hzp).mono fun _ _ h => h.sq) hK'
          · obtain rfl := Option.some.inj ho
            exact hI.newQ (by kernel_rfl) hls (Nat.le_refl _) (newsQ_spec (l := [4]) (by kernel_rfl) ⟨⟨_, _, rfl⟩, trivial⟩) rfl rfl rfl 41 zPt _ (run_allocQ rfl zPt_run wn) rfl zPt_p hK'
          · exact hi.elim
        · intro an w4 hI
          obtain ⟨vr3_0, hvr3_0, hsr3_0⟩ := hI.haveQ 0 _ 20 (.val (.agg ar2_2)) rfl rfl rfl rfl
          obtain rfl := hsr3_0
          obtain ⟨vr3_1, hvr3_1, hsr3_1⟩ := hI.haveQ 1 _ 21 (.val (.agg ar2_5)) rfl rfl rfl rfl
          obtain rfl := hsr3_1
          obtain ⟨vr3_2, hvr3_2, br3_2, zr3_2, rfl, hnr3_2, hbr3_2, hzr3_2⟩ := hI.haveQ 2 _ 22 (.blk (fun b => .slice (some ⟨b, 0, none⟩) 2 2) 41 (Ch 20 RP [some (eB.times (expo a)), some (eB.times (expo b))])) rfl rfl rfl rfl
          obtain ⟨vr3_3, hvr3_3, ar3_3, rfl, hCr3_3⟩ := hI.haveQ 3 _ 23 (.like (IsC 20 RP [some ((eB.times (expo a)).plus (eB.times (expo b)))])) rfl rfl rfl rfl
          obtain ⟨vr3_4, hvr3_4, br3_4, zr3_4, rfl, hnr3_4, hbr3_4, hzr3_4⟩ := hI.haveQ 4 _ 9 (.blk ptrTo 41 (Ch 20 RP [none])) rfl rfl rfl rfl
          have hupd := hI.upd
          have ha := hI.act [(20, .agg ar2_2), (21, .agg ar2_5), (22, .slice (some ⟨br3_2, 0, none⟩) 2 2), (23, .agg ar3_3), (9, ptrTo br3_4)] (by simp [hvr3_0, hvr3_1, hvr3_2, hvr3_3, hvr3_4]) (by kernel_rfl)
          clear hI hvr3_0 hvr3_1 hvr3_2 hvr3_3 hvr3_4
          subst ha
          simp only [List.foldl_cons, List.foldl_nil, List.setIfInBounds_toArray, List.set_cons_zero, List.set_cons_succ]
          have hner3_4_Bxr0y0_s2_1 := Lib.hid (show br3_4 ≠ br0_0 from Nat.ne_of_gt (Nat.lt_of_lt_of_le Bxr0y0_s2_1.out.lt hnr3_4))
          have hner3_4_Bxr0y1_s2_1 := Lib.hid (show br3_4 ≠ br0_1 from Nat.ne_of_gt (Nat.lt_of_lt_of_le Bxr0y1_s2_1.out.lt hnr3_4))
          have hner3_4_Bxr2y6_s2_1 := Lib.hid (show br3_4 ≠ br2_6 from Nat.ne_of_gt (Nat.lt_of_lt_of_le Bxr2y6_s2_1.out.lt hnr3_4))
          have hner3_4_Bxr2y7_s2_1 := Lib.hid (show br3_4 ≠ br2_7 from Nat.ne_of_gt (Nat.lt_of_lt_of_le Bxr2y7_s2_1.out.lt hnr3_4))
          have hger3_4 := Lib.hid (Nat.le_trans HU2_1.out.size hnr3_4)
          have Bxr0y0_3 := Lib.hid (hupd.blk (show Blk ws2_1 br0_0 23 (numsA .u8 a) from Bxr0y0_s2_1.out) (fun h => h))
          have Bxr0y1_3 := Lib.hid (hupd.blk (show Blk ws2_1 br0_1 23 (numsA .u8 b) from Bxr0y1_s2_1.out) (fun h => h))
          have Bxr2y6_3 := Lib.hid (hupd.blk (show Blk ws2_1 br2_6 41 ar2_2 from Bxr2y6_s2_1.out) (fun h => h))
          have Bxr2y7_3 := Lib.hid (hupd.blk (show Blk ws2_1 br2_7 41 ar2_5 from Bxr2y7_s2_1.out) (fun h => h))
          have Bxr3y4 := Lib.hid hbr3_4
          have HU3 := Lib.hid (HU2_1.out.trans hupd)
          clear hupd
          refine wpOps_storeQ 5 rfl rfl rfl 41 (.tmp 9) (.tmp 23) rfl br3_4 0 20 rfl ar3_3 rfl 41 zr3_4 Bxr3y4.out szPt hCr3_3.size (by rw [hzr3_4.size]; exact Nat.le_of_ble_eq_true rfl) hCr3_3.one' ?_
          intro ws3_0 hs3_0 hus3_0
          rw [splice_all _ _ 20 hzr3_4.size hCr3_3.size] at hs3_0
          have Bxr0y0_s3_0 := Lib.hid (hus3_0.blk Bxr0y0_3.out (fun e => hner3_4_Bxr0y0_s2_1.out e.symm))
          have Bxr0y1_s3_0 := Lib.hid (hus3_0.blk Bxr0y1_3.out (fun e => hner3_4_Bxr0y1_s2_1.out e.symm))
          have Bxr2y6_s3_0 := Lib.hid (hus3_0.blk Bxr2y6_3.out (fun e => hner3_4_Bxr2y6_s2_1.out e.symm))
          have Bxr2y7_s3_0 := Lib.hid (hus3_0.blk Bxr2y7_3.out (fun e => hner3_4_Bxr2y7_s2_1.out e.symm))
          have Bxr3y4_s3_0 := Lib.hid hs3_0
          have HU3_0 := Lib.hid (HU3.out.step hus3_0 (fun i hi h => absurd hi (Nat.not_lt.2 (h.symm ▸ hger3_4.out))))
          clear hs3_0 hus3_0
          refine wpOps_nil ?_
          refine hK4 _ _ ?_
          clear hK4
          refine wp_seq_k fun K5 hK5 => ?_
          refine wp_seq_k fun K6 hK6 => ?_
          refine wp_region_q #[true, true, true, true, true, true, true, true, true, true, true, true, true, true, true, true, true, true, true, true, true, true, true, true, true, true, true, true, true, true, true, true, true, true, true, true] ([.val (.agg ar3_3), .val (.agg ar2_5), .val (.agg ar2_2), .blk (fun b => .slice (some ⟨b, 0, none⟩) 2 2) 41 (Ch 20 RP [some (eB.times (expo b)), some (eB.times (expo a))]), .like (IsC 20 RP [some ((eB.times (expo b)).plus (eB.times (expo a)))]), .val (.bool true), .val (.bool false), .val (.bool false), .val (.agg ar2_2), .val (.agg ar2_5), .blk (fun b => .slice (some ⟨b, 0, none⟩) 2 2) 41 (Ch 20 RP [some (eB.times (expo a)), some (eB.times (expo b))]), .like (IsC 20 RP [some ((eB.times (expo a)).plus (eB.times (expo b)))]), .val (.agg ar2_2), .blk (fun b => .slice (some ⟨b, 0, none⟩) 2 2) 41 (Ch 20 RP [some ((eB.times (expo a)).plus (eB.times (expo b))), some (eB.times (expo a))]), .like (IsC 20 RP [some (((eB.times (expo a)).plus (eB.times (expo b))).plus (eB.times (expo a)))]), .val (.agg ar2_2), .val (.agg ar2_5), .val (.agg ar2_2), .blk (fun b => .slice (some ⟨b, 0, none⟩) 2 2) 41 (Ch 20 RP [some (eB.times (expo b)), some (eB.times (expo a))]), .like (IsC 20 RP [some ((eB.times (expo b)).plus (eB.times (expo a)))]), .blk (fun b => .slice (some ⟨b, 0, none⟩) 2 2) 41 (Ch 20 RP [some (eB.times (expo a)), some ((eB.times (expo b)).plus (eB.times (expo a)))]), .like (IsC 20 RP [some ((eB.times (expo a)).plus ((eB.times (expo b)).plus (eB.times (expo a))))]), .val (.bool true), .val (.bool false), .val (.bool false), .val (.bool false), .val (.agg ar2_2), .val (.agg ar2_5), .val (.bool false), .val (.agg ar2_2), .val (.agg (numsA .u8 (encP (eB.times (expo a))))), .val (.agg ar2_5), .val (.agg (numsA .u8 (encP (eB.times (expo b))))), .val (.bool false), .val (.bool false), .val (.bool false)] : List SQ) (by kernel_rfl) (by kernel_rfl) (by kernel_rfl) ?_ ?_
          · intro i o listed an wn ho hls hst hun hdep hI K' hK'
            have hi : i = 0 ∨ i = 1 ∨ i = 2 ∨ i = 3 ∨ i = 4 ∨ i = 5 ∨ i = 6 ∨ i = 7 ∨ i = 8 ∨ i = 9 ∨ i = 10 ∨ i = 11 ∨ i = 12 ∨ i = 13 ∨ i = 14 ∨ i = 15 ∨ i = 16 ∨ i = 17 ∨ i = 18 ∨ i = 19 ∨ i = 20 ∨ i = 21 ∨ i = 22 ∨ i = 23 ∨ i = 24 ∨ i = 25 ∨ i = 26 ∨ i = 27 ∨ i = 28 ∨ i = 29 ∨ i = 30 ∨ i = 31 ∨ i = 32 ∨ i = 33 ∨ i = 34 ∨ i = 35 ∨ False := slot_cases (l := [0, 1, 2, 3, 4, 5, 6, 7, 8, 9, 10, 11, 12, 13, 14, 15, 16, 17, 18, 19, 20, 21, 22, 23, 24, 25, 26, 27, 28, 29, 30, 31, 32, 33, 34, 35]) rfl ho hst
            rcases hi with rfl | rfl | rfl | rfl | rfl | rfl | rfl | rfl | rfl | rfl | rfl | rfl | rfl | rfl | rfl | rfl | rfl | rfl | rfl | rfl | rfl | rfl | rfl | rfl | rfl | rfl | rfl | rfl | rfl | rfl | rfl | rfl | rfl | rfl | rfl | rfl | hi
            · obtain rfl := Option.some.inj ho
              have hvp : an.eval (.tmp 9) = ptrTo br3_4 := hI.oldQ (by kernel_rfl) rfl
              exact hI.pureQ (by kernel_rfl) hls rfl rfl rfl _ (run_loadQ rfl hvp wn (hI.upd.blk (show Blk ws3_0.drew br3_4 41 ar3_3 from Bxr3y4_s3_0.out) (fun h => h)) Tryd.underlying41 rfl szPt (by rw [hCr3_3.size]; exact Nat.le_of_ble_eq_true rfl)) (.val (.agg ar3_3)) rfl (congrArg Value.agg (extract_all _ 20 hCr3_3.size)) rfl hK'
            · obtain rfl := Option.some.inj ho
              have hvp : an.eval (.tmp 8) = ptrTo br2_7 := hI.oldQ (by kernel_rfl) rfl
              exact hI.pureQ (by kernel_rfl) hls rfl rfl rfl _ (run_loadQ rfl hvp wn (hI.upd.blk (show Blk ws3_0.drew br2_7 41 ar2_5 from Bxr2y7_s3_0.out) (fun h => h)) Tryd.underlying41 rfl szPt (by rw [hCr2_5.size]; exact Nat.le_of_ble_eq_true rfl)) (.val (.agg ar2_5)) rfl (congrArg Value.agg (extract_all _ 20 hCr2_5.size)) rfl hK'
            · obtain rfl := Option.some.inj ho
              have hvp : an.eval (.tmp 7) = ptrTo br2_6 := hI.oldQ (by kernel_rfl) rfl
              exact hI.pureQ (by kernel_rfl) hls rfl rfl rfl _ (run_loadQ rfl hvp wn (hI.upd.blk (show Blk ws3_0.drew br2_6 41 ar2_2 from Bxr2y6_s3_0.out) (fun h => h)) Tryd.underlying41 rfl szPt (by rw [hCr2_2.size]; exact Nat.le_of_ble_eq_true rfl)) (.val (.agg ar2_2)) rfl (congrArg Value.agg (extract_all _ 20 hCr2_2.size)) rfl hK'
            · obtain rfl := Option.some.inj ho
              obtain ⟨vp, hvp, hsp⟩ := hI.haveQ 1 _ 25 (.val (.agg ar2_5)) rfl rfl rfl (hdep ⟨1, .data⟩ (by simp) rfl)
              obtain rfl := hsp
              obtain ⟨vq, hvq, hsq⟩ := hI.haveQ 2 _ 26 (.val (.agg ar2_2)) rfl rfl rfl (hdep ⟨2, .data⟩ (by simp) rfl)
              obtain rfl := hsq
              exact hI.rowQ (by kernel_rfl) hls (Nat.le_refl _) rfl rfl rfl _ _ _ _ (run_pts2 rfl (eval_of hvp) (eval_of hvq) hCr2_5.size hCr2_2.size wn) rfl (hCr2_5.cat hCr2_2) rfl hK'
            · obtain rfl := Option.some.inj ho
              obtain ⟨vp, hvp, bp, zp, rfl, hnp, hbp, hzp⟩ := hI.haveQ 3 _ 27 (.blk (fun b => .slice (some ⟨b, 0, none⟩) 2 2) 41 (Ch 20 RP [some (eB.times (expo b)), some (eB.times (expo a))])) rfl rfl rfl (hdep ⟨3, .data⟩ (by simp) rfl)
              exact hI.callQ (by kernel_rfl) hls rfl rfl rfl 28 #[.tmp 27] _ rfl #[.slice (some ⟨bp, 0, none⟩) 2 2] (by simp [eval_of hvp]) (run_enter Tryd.func28 (by kernel_rfl) (by kernel_rfl)) (.like (IsC 20 RP [some ((eB.times (expo b)).plus (eB.times (expo a)))])) rfl rfl ((addR2 _ (HT.out.upd (HU3_0.out.drew.trans hI.upd)) hbp hzp).mono fun _ _ h => h.sq) hK'
            · obtain rfl := Option.some.inj ho
              obtain ⟨vp, hvp, hsp⟩ := hI.haveQ 0 _ 24 (.val (.agg ar3_3)) rfl rfl rfl (hdep ⟨0, .data⟩ (by simp) rfl)
              obtain rfl := hsp
              obtain ⟨vq, hvq, aq, rfl, hCq⟩ := hI.haveQ 4 _ 28 (.like (IsC 20 RP [some ((eB.times (expo b)).plus (eB.times (expo a)))])) rfl rfl rfl (hdep ⟨4, .data⟩ (by simp) rfl)
              exact hI.callQ (by kernel_rfl) hls rfl rfl rfl 31 #[.tmp 24, .tmp 28] _ rfl #[.agg ar3_3, .agg aq] (by simp [eval_of hvp, eval_of hvq]) (run_enter Tryd.func31 (by kernel_rfl) (by kernel_rfl)) (.val (.bool true)) rfl rfl ((equalR _ hCr3_3 hCq).mono fun _ _ h => ret_val (ret_b h (edEq_t (plus_comm _ _)))) hK'
            · obtain rfl := Option.some.inj ho
              obtain ⟨vp, hvp, hsp⟩ := hI.haveQ 5 _ 29 (.val (.bool true)) rfl rfl rfl (hdep ⟨5, .data⟩ (by simp) rfl)
              obtain rfl := hsp
              exact hI.pureQ (by kernel_rfl) hls rfl rfl rfl (.bool false) (run_not rfl (eval_of hvp) wn) (.val (.bool false)) rfl rfl rfl hK'
            · obtain rfl := Option.some.inj ho
              obtain ⟨vp, hvp, hsp⟩ := hI.haveQ 6 _ 30 (.val (.bool false)) rfl rfl rfl (hdep ⟨6, .data⟩ (by simp) rfl)
              obtain rfl := hsp
              exact hI.pureQ (by kernel_rfl) hls rfl rfl rfl (.bool false) (run_moveQ (.inl rfl) (eval_of hvp) wn) (.val (.bool false)) rfl rfl rfl hK'
            · obtain rfl := Option.some.inj ho
              obtain ⟨vg, hvg, hsg⟩ := hI.haveQ 7 _ 31 (.val (.bool false)) rfl rfl rfl (hdep ⟨7, .guard⟩ (by simp) rfl)
              obtain rfl := hsg
              have hvp : an.eval (.tmp 7) = ptrTo br2_6 := hI.oldQ (by kernel_rfl) rfl
              exact hI.pureQ (by kernel_rfl) hls rfl (wanted_of rfl rfl rfl hvg) rfl _ (run_loadQ rfl hvp wn (hI.upd.blk (show Blk ws3_0.drew br2_6 41 ar2_2 from Bxr2y6_s3_0.out) (fun h => h)) Tryd.underlying41 rfl szPt (by rw [hCr2_2.size]; exact Nat.le_of_ble_eq_true rfl)) (.val (.agg ar2_2)) rfl (congrArg Value.agg (extract_all _ 20 hCr2_2.size)) rfl hK'
            · obtain rfl := Option.some.inj ho
              obtain ⟨vg, hvg, hsg⟩ := hI.haveQ 7 _ 31 (.val (.bool false)) rfl rfl rfl (hdep ⟨7, .guard⟩ (by simp) rfl)
              obtain rfl := hsg
              have hvp : an.eval (.tmp 8) = ptrTo br2_7 := hI.oldQ (by kernel_rfl) rfl
              exact hI.pureQ (by kernel_rfl) hls rfl (wanted_of rfl rfl rfl hvg) rfl _ (run_loadQ rfl hvp wn (hI.upd.blk (show Blk ws3_0.drew br2_7 41 ar2_5 from Bxr2y7_s3_0.out) (fun h => h)) Tryd.underlying41 rfl szPt (by rw [hCr2_5.size]; exact Nat.le_of_ble_eq_true rfl)) (.val (.agg ar2_5)) rfl (congrArg Value.agg (extract_all _ 20 hCr2_5.size)) rfl hK'
            · obtain rfl := Option.some.inj ho
              obtain ⟨vg, hvg, hsg⟩ := hI.haveQ 7 _ 31 (.val (.bool false)) rfl rfl rfl (hdep ⟨7, .guard⟩ (by simp) rfl)
              obtain rfl := hsg
              obtain ⟨vp, hvp, hsp⟩ := hI.haveQ 8 _ 32 (.val (.agg ar2_2)) rfl rfl rfl (hdep ⟨8, .data⟩ (by simp) rfl)
              obtain rfl := hsp
              obtain ⟨vq, hvq, hsq⟩ := hI.haveQ 9 _ 33 (.val (.agg ar2_5)) rfl rfl rfl (hdep ⟨9, .data⟩ (by simp) rfl)
              obtain rfl := hsq
              exact hI.rowQ (by kernel_rfl) hls (Nat.le_refl _) rfl (wanted_of rfl rfl rfl hvg) rfl _ _ _ _ (run_pts2 rfl (eval_of hvp) (eval_of hvq) hCr2_2.size hCr2_5.size wn) rfl (hCr2_2.cat hCr2_5) rfl hK'
            · obtain rfl := Option.some.inj ho
              obtain ⟨vg, hvg, hsg⟩ := hI.haveQ 7 _ 31 (.val (.bool false)) rfl rfl rfl (hdep ⟨7, .guard⟩ (by simp) rfl)
              obtain rfl := hsg
              obtain ⟨vp, hvp, bp, zp, rfl, hnp, hbp, hzp⟩ := hI.haveQ 10 _ 34 (.blk (fun b => .slice (some ⟨b, 0, none⟩) 2 2) 41 (Ch 20 RP [some (eB.times (expo a)), some (eB.times (expo b))])) rfl rfl rfl (hdep ⟨10, .data⟩ (by simp) rfl)
              exact hI.callQ (by kernel_rfl) hls rfl (wanted_of rfl rfl rfl hvg) rfl 28 #[.tmp 34] _ rfl #[.slice (some ⟨bp, 0, none⟩) 2 2] (by simp [eval_of hvp]) (run_enter Tryd.func28 (by kernel_rfl) (by kernel_rfl)) (.like (IsC 20 RP [some ((eB.times (expo a)).plus (eB.times (expo b)))])) rfl rfl ((addR2 _ (HT.out.upd (HU3_0.out.drew.trans hI.upd)) hbp hzp).mono fun _ _ h => h.sq) hK'
            · obtain rfl := Option.some.inj ho
              obtain ⟨vg, hvg, hsg⟩ := hI.haveQ 7 _ 31 (.val (.bool false)) rfl rfl rfl (hdep ⟨7, .guard⟩ (by simp) rfl)
              obtain rfl := hsg
              have hvp : an.eval (.tmp 7) = ptrTo br2_6 := hI.oldQ (by kernel_rfl) rfl
              exact hI.pureQ (by kernel_rfl) hls rfl (wanted_of rfl rfl rfl hvg) rfl _ (run_loadQ rfl hvp wn (hI.upd.blk (show Blk ws3_0.drew br2_6 41 ar2_2 from Bxr2y6_s3_0.out) (fun h => h)) Tryd.underlying41 rfl szPt (by rw [hCr2_2.size]; exact Nat.le_of_ble_eq_true rfl)) (.val (.agg ar2_2)) rfl (congrArg Value.agg (extract_all _ 20 hCr2_2.size)) rfl hK'
            · obtain rfl := Option.some.inj ho
              obtain ⟨vg, hvg, hsg⟩ := hI.haveQ 7 _ 31 (.val (.bool false)) rfl rfl rfl (hdep ⟨7, .guard⟩ (by simp) rfl)
              obtain rfl := hsg
              obtain ⟨vp, hvp, ap, rfl, hCp⟩ := hI.haveQ 11 _ 35 (.like (IsC 20 RP [some ((eB.times (expo a)).plus (eB.times (expo b)))])) rfl rfl rfl (hdep ⟨11, .data⟩ (by simp) rfl)
              obtain ⟨vq, hvq, hsq⟩ := hI.haveQ 12 _ 36 (.val (.agg ar2_2)) rfl rfl rfl (hdep ⟨12, .data⟩ (by simp) rfl)
              obtain rfl := hsq
              exact hI.rowQ (by kernel_rfl) hls (Nat.le_refl _) rfl (wanted_of rfl rfl rfl hvg) rfl _ _ _ _ (run_pts2 rfl (eval_of hvp) (eval_of hvq) hCp.size hCr2_2.size wn) rfl (hCp.cat hCr2_2) rfl hK'
            · obtain rfl := Option.some.inj ho
              obtain ⟨vg, hvg, hsg⟩ := hI.haveQ 7 _ 31 (.val (.bool false)) rfl rfl rfl (hdep ⟨7, .guard⟩ (by simp) rfl)
              obtain rfl := hsg
              obtain ⟨vp, hvp, bp, zp, rfl, hnp, hbp, hzp⟩ := hI.haveQ 13 _ 37 (.blk (fun b => .slice (some ⟨b, 0, none⟩) 2 2) 41 (Ch 20 RP [some ((eB.times (expo a)).plus (eB.times (expo b))), some (eB.times (expo a))])) rfl rfl rfl (hdep ⟨13, .data⟩ (by simp) rfl)
              exact hI.callQ (by kernel_rfl) hls rfl (wanted_of rfl rfl rfl hvg) rfl 28 #[.tmp 37] _ rfl #[.slice (some ⟨bp, 0, none⟩) 2 2] (by simp [eval_of hvp]) (run_enter Tryd.func28 (by kernel_rfl) (by kernel_rfl)) (.like (IsC 20 RP [some (((eB.times (expo a)).plus (eB.times (expo b))).plus (eB.times (expo a)))])) rfl rfl ((addR2 _ (HT.out.upd (HU3_0.out.drew.trans hI.upd)) hbp hzp).mono fun _ _ h => h.sq) hK'
            · obtain rfl := Option.some.inj ho
              obtain ⟨vg, hvg, hsg⟩ := hI.haveQ 7 _ 31 (.val (.bool false)) rfl rfl rfl (hdep ⟨7, .guard⟩ (by simp) rfl)
              obtain rfl := hsg
              have hvp : an.eval (.tmp 7) = ptrTo br2_6 := hI.oldQ (by kernel_rfl) rfl
              exact hI.pureQ (by kernel_rfl) hls rfl (wanted_of rfl rfl rfl hvg) rfl _ (run_loadQ rfl hvp wn (hI.upd.blk (show Blk ws3_0.drew br2_6 41 ar2_2 from Bxr2y6_s3_0.out) (fun h => h)) Tryd.underlying41 rfl szPt (by rw [hCr2_2.size]; exact Nat.le_of_ble_eq_true rfl)) (.val (.agg ar2_2)) rfl (congrArg Value.agg (extract_all _ 20 hCr2_2.size)) rfl hK'
            · obtain rfl := Option.some.inj ho
              obtain ⟨vg, hvg, hsg⟩ := hI.haveQ 7 _ 31 (.val (.bool false)) rfl rfl rfl (hdep ⟨7, .guard⟩ (by simp) rfl)
              obtain rfl := hsg
              have hvp : an.eval (.tmp 8) = ptrTo br2_7 := hI.oldQ (by kernel_rfl) rfl
              exact hI.pureQ (by kernel_rfl) hls rfl (wanted_of rfl rfl rfl hvg) rfl _ (run_loadQ rfl hvp wn (hI.upd.blk (show Blk ws3_0.drew br2_7 41 ar2_5 from Bxr2y7_s3_0.out) (fun h => h)) Tryd.underlying41 rfl szPt (by rw [hCr2_5.size]; exact Nat.le_of_ble_eq_true rfl)) (.val (.agg ar2_5)) rfl (congrArg Value.agg (extract_all _ 20 hCr2_5.size)) rfl hK'
            · obtain rfl := Option.some.inj ho
              obtain ⟨vg, hvg, hsg⟩ := hI.haveQ 7 _ 31 (.val (.bool false)) rfl rfl rfl (hdep ⟨7, .guard⟩ (by simp) rfl)
              obtain rfl := hsg
              have hvp : an.eval (.tmp 7) = ptrTo br2_6 := hI.oldQ (by kernel_rfl) rfl
              exact hI.pureQ (by kernel_rfl) hls rfl (wanted_of rfl rfl rfl hvg) rfl _ (run_loadQ rfl hvp wn (hI.upd.blk (show Blk ws3_0.drew br2_6 41 ar2_2 from Bxr2y6_s3_0.out) (fun h => h)) Tryd.underlying41 rfl szPt (by rw [hCr2_2.size]; exact Nat.le_of_ble_eq_true rfl)) (.val (.agg ar2_2)) rfl (congrArg Value.agg (extract_all _ 20 hCr2_2.size)) rfl hK'
            · obtain rfl := Option.some.inj ho
              obtain ⟨vg, hvg, hsg⟩ := hI.haveQ 7 _ 31 (.val (.bool false)) rfl rfl rfl (hdep ⟨7, .guard⟩ (by simp) rfl)
              obtain rfl := hsg
              obtain ⟨vp, hvp, hsp⟩ := hI.haveQ 16 _ 40 (.val (.agg ar2_5)) rfl rfl rfl (hdep ⟨16, .data⟩ (by simp) rfl)
              obtain rfl := hsp
              obtain ⟨vq, hvq, hsq⟩ := hI.haveQ 17 _ 41 (.val (.agg ar2_2)) rfl rfl rfl (hdep ⟨17, .data⟩ (by simp) rfl)
              obtain rfl := hsq
              exact hI.rowQ (by kernel_rfl) hls (Nat.le_refl _) rfl (wanted_of rfl rfl rfl hvg) rfl _ _ _ _ (run_pts2 rfl (eval_of hvp) (eval_of hvq) hCr2_5.size hCr2_2.size wn) rfl (hCr2_5.cat hCr2_2) rfl hK'
            · obtain rfl := Option.some.inj ho
              obtain ⟨vg, hvg, hsg⟩ := hI.haveQ 7 _ 31 (.val (.bool false)) rfl rfl rfl (hdep ⟨7, .guard⟩ (by simp) rfl)
              obtain rfl := hsg
              obtain ⟨vp, hvp, bp, zp, rfl, hnp, hbp, hzp⟩ := hI.haveQ 18 _ 42 (.blk (fun b => .slice (some ⟨b, 0, none⟩) 2 2) 41 (Ch 20 RP [some (eB.times (expo b)), some (eB.times (expo a))])) rfl rfl rfl (hdep ⟨18, .data⟩ (by simp) rfl)
              exact hI.callQ (by kernel_rfl) hls rfl (wanted_of rfl rfl rfl hvg) rfl 28 #[.tmp 42] _ rfl #[.slice (some ⟨bp, 0, none⟩) 2 2] (by simp [eval_of hvp]) (run_enter Tryd.func28 (by kernel_rfl) (by kernel_rfl)) (.like (IsC 20 RP [some ((eB.times (expo b)).plus (eB.times (expo a)))])) rfl rfl ((addR2 _ (HT.out.upd (HU3_0.out.drew.trans hI.upd)) hbp hzp).mono fun _ _ h => h.sq) hK'
            · obtain rfl := Option.some.inj ho
              obtain ⟨vg, hvg, hsg⟩ := hI.haveQ 7 _ 31 (.val (.bool false)) rfl rfl rfl (hdep ⟨7, .guard⟩ (by simp) rfl)
              obtain rfl := hsg
              obtain ⟨vp, hvp, hsp⟩ := hI.haveQ 15 _ 39 (.val (.agg ar2_2)) rfl rfl rfl (hdep ⟨15, .data⟩ (by simp) rfl)
              obtain rfl := hsp
              obtain ⟨vq, hvq, aq, rfl, hCq⟩ := hI.haveQ 19 _ 43 (.like (IsC 20 RP [some ((eB.times (expo b)).plus (eB.times (expo a)))])) rfl rfl rfl (hdep ⟨19, .data⟩ (by simp) rfl)
              exact hI.rowQ (by kernel_rfl) hls (Nat.le_refl _) rfl (wanted_of rfl rfl rfl hvg) rfl _ _ _ _ (run_pts2 rfl (eval_of hvp) (eval_of hvq) hCr2_2.size hCq.size wn) rfl (hCr2_2.cat hCq) rfl hK'
            · obtain rfl := Option.some.inj ho
              obtain ⟨vg, hvg, hsg⟩ := hI.haveQ 7 _ 31 (.val (.bool false)) rfl rfl rfl (hdep ⟨7, .guard⟩ (by simp) rfl)
              obtain rfl := hsg
              obtain ⟨vp, hvp, bp, zp, rfl, hnp, hbp, hzp⟩ := hI.haveQ 20 _ 44 (.blk (fun b => .slice (some ⟨b, 0, none⟩) 2 2) 41 (Ch 20 RP [some (eB.times (expo a)), some ((eB.times (expo b)).plus (eB.times (expo a)))])) rfl rfl rfl (hdep ⟨20, .data⟩ (by simp) rfl)
              exact hI.callQ (by kernel_rfl) hls rfl (wanted_of rfl rfl rfl hvg) rfl 28 #[.tmp 44] _ rfl #[.slice (some ⟨bp, 0, none⟩) 2 2] (by simp [eval_of hvp]) (run_enter Tryd.func28 (by kernel_rfl) (by kernel_rfl)) (.like (IsC 20 RP [some ((eB.times (expo a)).plus ((eB.times (expo b)).plus (eB.times (expo a))))])) rfl rfl ((addR2 _ (HT.out.upd (HU3_0.out.drew.trans hI.upd)) hbp hzp).mono fun _ _ h => h.sq) hK'
            · obtain rfl := Option.some.inj ho
              obtain ⟨vg, hvg, hsg⟩ := hI.haveQ 7 _ 31 (.val (.bool false)) rfl rfl rfl (hdep ⟨7, .guard⟩ (by simp) rfl)
              obtain rfl := hsg
              obtain ⟨vp, hvp, ap, rfl, hCp⟩ := hI.haveQ 14 _ 38 (.like (IsC 20 RP [some (((eB.times (expo a)).plus (eB.times (expo b))).plus (eB.times (expo a)))])) rfl rfl rfl (hdep ⟨14, .data⟩ (by simp) rfl)
              obtain ⟨vq, hvq, aq, rfl, hCq⟩ := hI.haveQ 21 _ 45 (.like (IsC 20 RP [some ((eB.times (expo a)).plus ((eB.times (expo b)).plus (eB.times (expo a))))])) rfl rfl rfl (hdep ⟨21, .data⟩ (by simp) rfl)
              exact hI.callQ (by kernel_rfl) hls rfl (wanted_of rfl rfl rfl hvg) rfl 31 #[.tmp 38, .tmp 45] _ rfl #[.agg ap, .agg aq] (by simp [eval_of hvp, eval_of hvq]) (run_enter Tryd.func31 (by kernel_rfl) (by kernel_rfl)) (.val (.bool true)) rfl rfl ((equalR _ hCp hCq).mono fun _ _ h => ret_val (ret_b h (edEq_t (plus_assoc _ _ _)))) hK'
            · obtain rfl := Option.some.inj ho
              obtain ⟨vg, hvg, hsg⟩ := hI.haveQ 7 _ 31 (.val (.bool false)) rfl rfl rfl (hdep ⟨7, .guard⟩ (by simp) rfl)
              obtain rfl := hsg
              obtain ⟨vp, hvp, hsp⟩ := hI.haveQ 22 _ 46 (.val (.bool true)) rfl rfl rfl (hdep ⟨22, .data⟩ (by simp) rfl)
              obtain rfl := hsp
              exact hI.pureQ (by kernel_rfl) hls rfl (wanted_of rfl rfl rfl hvg) rfl (.bool false) (run_not rfl (eval_of hvp) wn) (.val (.bool false)) rfl rfl rfl hK'
            · obtain rfl := Option.some.inj ho
              obtain ⟨vp, hvp, hsp⟩ := hI.haveQ 7 _ 31 (.val (.bool false)) rfl rfl rfl (hdep ⟨7, .data⟩ (by simp) rfl)
              obtain rfl := hsp
              obtain ⟨vq, hvq, hsq⟩ := hI.haveQ 23 _ 47 (.val (.bool false)) rfl rfl rfl (hdep ⟨23, .data⟩ (by simp) rfl)
              obtain rfl := hsq
              exact hI.pureQ (by kernel_rfl) hls rfl rfl rfl (.bool false) (run_pickF rfl (eval_of hvp) (eval_of hvq) wn) (.val (.bool false)) rfl rfl rfl hK'
            · obtain rfl := Option.some.inj ho
              obtain ⟨vp, hvp, hsp⟩ := hI.haveQ 24 _ 48 (.val (.bool false)) rfl rfl rfl (hdep ⟨24, .data⟩ (by simp) rfl)
              obtain rfl := hsp
              exact hI.pureQ (by kernel_rfl) hls rfl rfl rfl (.bool false) (run_moveQ (.inl rfl) (eval_of hvp) wn) (.val (.bool false)) rfl rfl rfl hK'
            · obtain rfl := Option.some.inj ho
              obtain ⟨vg, hvg, hsg⟩ := hI.haveQ 25 _ 49 (.val (.bool false)) rfl rfl rfl (hdep ⟨25, .guard⟩ (by simp) rfl)
              obtain rfl := hsg
              have hvp : an.eval (.tmp 7) = ptrTo br2_6 := hI.oldQ (by kernel_rfl) rfl
              exact hI.pureQ (by kernel_rfl) hls rfl (wanted_of rfl rfl rfl hvg) rfl _ (run_loadQ rfl hvp wn (hI.upd.blk (show Blk ws3_0.drew br2_6 41 ar2_2 from Bxr2y6_s3_0.out) (fun h => h)) Tryd.underlying41 rfl szPt (by rw [hCr2_2.size]; exact Nat.le_of_ble_eq_true rfl)) (.val (.agg ar2_2)) rfl (congrArg Value.agg (extract_all _ 20 hCr2_2.size)) rfl hK'
            · obtain rfl := Option.some.inj ho
              obtain ⟨vg, hvg, hsg⟩ := hI.haveQ 25 _ 49 (.val (.bool false)) rfl rfl rfl (hdep ⟨25, .guard⟩ (by simp) rfl)
              obtain rfl := hsg
              have hvp : an.eval (.tmp 8) = ptrTo br2_7 := hI.oldQ (by kernel_rfl) rfl
              exact hI.pureQ (by kernel_rfl) hls rfl (wanted_of rfl rfl rfl hvg) rfl _ (run_loadQ rfl hvp wn (hI.upd.blk (show Blk ws3_0.drew br2_7 41 ar2_5 from Bxr2y7_s3_0.out) (fun h => h)) Tryd.underlying41 rfl szPt (by rw [hCr2_5.size]; exact Nat.le_of_ble_eq_true rfl)) (.val (.agg ar2_5)) rfl (congrArg Value.agg (extract_all _ 20 hCr2_5.size)) rfl hK'
            · obtain rfl := Option.some.inj ho
              obtain ⟨vg, hvg, hsg⟩ := hI.haveQ 25 _ 49 (.val (.bool false)) rfl rfl rfl (hdep ⟨25, .guard⟩ (by simp) rfl)
              obtain rfl := hsg
              obtain ⟨vp, hvp, hsp⟩ := hI.haveQ 26 _ 50 (.val (.agg ar2_2)) rfl rfl rfl (hdep ⟨26, .data⟩ (by simp) rfl)
              obtain rfl := hsp
              obtain ⟨vq, hvq, hsq⟩ := hI.haveQ 27 _ 51 (.val (.agg ar2_5)) rfl rfl rfl (hdep ⟨27, .data⟩ (by simp) rfl)
              obtain rfl := hsq
              exact hI.callQ (by kernel_rfl) hls rfl (wanted_of rfl rfl rfl hvg) rfl 31 #[.tmp 50, .tmp 51] _ rfl #[.agg ar2_2, .agg ar2_5] (by simp [eval_of hvp, eval_of hvq]) (run_enter Tryd.func31 (by kernel_rfl) (by kernel_rfl)) (.val (.bool false)) rfl rfl ((equalR _ hCr2_2 hCr2_5).mono fun _ _ h => ret_val (ret_b h hq)) hK'
            · obtain rfl := Option.some.inj ho
              obtain ⟨vg, hvg, hsg⟩ := hI.haveQ 25 _ 49 (.val (.bool false)) rfl rfl rfl (hdep ⟨25, .guard⟩ (by simp) rfl)
              obtain rfl := hsg
              have hvp : an.eval (.tmp 7) = ptrTo br2_6 := hI.oldQ (by kernel_rfl) rfl
              exact hI.pureQ (by kernel_rfl) hls rfl (wanted_of rfl rfl rfl hvg) rfl _ (run_loadQ rfl hvp wn (hI.upd.blk (show Blk ws3_0.drew br2_6 41 ar2_2 from Bxr2y6_s3_0.out) (fun h => h)) Tryd.underlying41 rfl szPt (by rw [hCr2_2.size]; exact Nat.le_of_ble_eq_true rfl)) (.val (.agg ar2_2)) rfl (congrArg Value.agg (extract_all _ 20 hCr2_2.size)) rfl hK'
            · obtain rfl := Option.some.inj ho
              obtain ⟨vg, hvg, hsg⟩ := hI.haveQ 25 _ 49 (.val (.bool false)) rfl rfl rfl (hdep ⟨25, .guard⟩ (by simp) rfl)
              obtain rfl := hsg
              obtain ⟨vp, hvp, hsp⟩ := hI.haveQ 29 _ 53 (.val (.agg ar2_2)) rfl rfl rfl (hdep ⟨29, .data⟩ (by simp) rfl)
              obtain rfl := hsp
              exact hI.callQ (by kernel_rfl) hls rfl (wanted_of rfl rfl rfl hvg) rfl 26 #[.tmp 53] _ rfl #[.agg ar2_2] (by simp [eval_of hvp]) (run_enter Tryd.func26 (by kernel_rfl) (by kernel_rfl)) (.val (.agg (numsA .u8 (encP (eB.times (expo a)))))) rfl rfl ((encodeR _ hCr2_2).mono fun _ _ h => ret_val h) hK'
            · obtain rfl := Option.some.inj ho
              obtain ⟨vg, hvg, hsg⟩ := hI.haveQ 25 _ 49 (.val (.bool false)) rfl rfl rfl (hdep ⟨25, .guard⟩ (by simp) rfl)
              obtain rfl := hsg
              have hvp : an.eval (.tmp 8) = ptrTo br2_7 := hI.oldQ (by kernel_rfl) rfl
              exact hI.pureQ (by kernel_rfl) hls rfl (wanted_of rfl rfl rfl hvg) rfl _ (run_loadQ rfl hvp wn (hI.upd.blk (show Blk ws3_0.drew br2_7 41 ar2_5 from Bxr2y7_s3_0.out) (fun h => h)) Tryd.underlying41 rfl szPt (by rw [hCr2_5.size]; exact Nat.le_of_ble_eq_true rfl)) (.val (.agg ar2_5)) rfl (congrArg Value.agg (extract_all _ 20 hCr2_5.size)) rfl hK'
            · obtain rfl := Option.some.inj ho
              obtain ⟨vg, hvg, hsg⟩ := hI.haveQ 25 _ 49 (.val (.bool false)) rfl rfl rfl (hdep ⟨25, .guard⟩ (by simp) rfl)
              obtain rfl := hsg
              obtain ⟨vp, hvp, hsp⟩ := hI.haveQ 31 _ 55 (.val (.agg ar2_5)) rfl rfl rfl (hdep ⟨31, .data⟩ (by simp) rfl)
              obtain rfl := hsp
              exact hI.callQ (by kernel_rfl) hls rfl (wanted_of rfl rfl rfl hvg) rfl 26 #[.tmp 55] _ rfl #[.agg ar2_5] (by simp [eval_of hvp]) (run_enter Tryd.func26 (by kernel_rfl) (by kernel_rfl)) (.val (.agg (numsA .u8 (encP (eB.times (expo b)))))) rfl rfl ((encodeR _ hCr2_5).mono fun _ _ h => ret_val h) hK'
            · obtain rfl := Option.some.inj ho
              obtain ⟨vg, hvg, hsg⟩ := hI.haveQ 25 _ 49 (.val (.bool false)) rfl rfl rfl (hdep ⟨25, .guard⟩ (by simp) rfl)
              obtain rfl := hsg
              obtain ⟨vp, hvp, hsp⟩ := hI.haveQ 30 _ 54 (.val (.agg (numsA .u8 (encP (eB.times (expo a)))))) rfl rfl rfl (hdep ⟨30, .data⟩ (by simp) rfl)
              obtain rfl := hsp
              obtain ⟨vq, hvq, hsq⟩ := hI.haveQ 32 _ 56 (.val (.agg (numsA .u8 (encP (eB.times (expo b)))))) rfl rfl rfl (hdep ⟨32, .data⟩ (by simp) rfl)
              obtain rfl := hsq
              exact hI.pureQ (by kernel_rfl) hls rfl (wanted_of rfl rfl rfl hvg) rfl (.bool false) (run_eqlK (b := false) rfl (eval_of hvp) (eval_of hvq) (encP_length _) (encP_length _) ((eb_idx _ _).trans hq) wn) (.val (.bool false)) rfl rfl rfl hK'
            · obtain rfl := Option.some.inj ho
              obtain ⟨vg, hvg, hsg⟩ := hI.haveQ 25 _ 49 (.val (.bool false)) rfl rfl rfl (hdep ⟨25, .guard⟩ (by simp) rfl)
              obtain rfl := hsg
              obtain ⟨vp, hvp, hsp⟩ := hI.haveQ 28 _ 52 (.val (.bool false)) rfl rfl rfl (hdep ⟨28, .data⟩ (by simp) rfl)
              obtain rfl := hsp
              obtain ⟨vq, hvq, hsq⟩ := hI.haveQ 33 _ 57 (.val (.bool false)) rfl rfl rfl (hdep ⟨33, .data⟩ (by simp) rfl)
              obtain rfl := hsq
              exact hI.pureQ (by kernel_rfl) hls rfl (wanted_of rfl rfl rfl hvg) rfl (.bool false) (run_neqB rfl (eval_of hvp) (eval_of hvq) rfl wn) (.val (.bool false)) rfl rfl rfl hK'
            · obtain rfl := Option.some.inj ho
              obtain ⟨vp, hvp, hsp⟩ := hI.haveQ 25 _ 49 (.val (.bool false)) rfl rfl rfl (hdep ⟨25, .data⟩ (by simp) rfl)
              obtain rfl := hsp
              obtain ⟨vq, hvq, hsq⟩ := hI.haveQ 34 _ 58 (.val (.bool false)) rfl rfl rfl (hdep ⟨34, .data⟩ (by simp) rfl)
              obtain rfl := hsq
              exact hI.pureQ (by kernel_rfl) hls rfl rfl rfl (.bool false) (run_pickF rfl (eval_of hvp) (eval_of hvq) wn) (.val (.bool false)) rfl rfl rfl hK'
            · exact hi.elim
          · intro fuel an w5 hf hI
            obtain ⟨vr4_0, hvr4_0, hsr4_0⟩ := hI.haveQ 0 _ 24 (.val (.agg ar3_3)) rfl rfl rfl rfl
            obtain rfl := hsr4_0
            obtain ⟨vr4_1, hvr4_1, hsr4_1⟩ := hI.haveQ 1 _ 25 (.val (.agg ar2_5)) rfl rfl rfl rfl
            obtain rfl := hsr4_1
            obtain ⟨vr4_2, hvr4_2, hsr4_2⟩ := hI.haveQ 2 _ 26 (.val (.agg ar2_2)) rfl rfl rfl rfl
            obtain rfl := hsr4_2
            obtain ⟨vr4_3, hvr4_3, br4_3, zr4_3, rfl, hnr4_3, hbr4_3, hzr4_3⟩ := hI.haveQ 3 _ 27 (.blk (fun b => .slice (some ⟨b, 0, none⟩) 2 2) 41 (Ch 20 RP [some (eB.times (expo b)), some (eB.times (expo a))])) rfl rfl rfl rfl
            obtain ⟨vr4_4, hvr4_4, ar4_4, rfl, hCr4_4⟩ := hI.haveQ 4 _ 28 (.like (IsC 20 RP [some ((eB.times (expo b)).plus (eB.times (expo a)))])) rfl rfl rfl rfl
            obtain ⟨vr4_5, hvr4_5, hsr4_5⟩ := hI.haveQ 5 _ 29 (.val (.bool true)) rfl rfl rfl rfl
            obtain rfl := hsr4_5
            obtain ⟨vr4_6, hvr4_6, hsr4_6⟩ := hI.haveQ 6 _ 30 (.val (.bool false)) rfl rfl rfl rfl
            obtain rfl := hsr4_6
            obtain ⟨vr4_7, hvr4_7, hsr4_7⟩ := hI.haveQ 7 _ 31 (.val (.bool false)) rfl rfl rfl rfl
            obtain rfl := hsr4_7
            obtain ⟨vr4_8, hvr4_8, hsr4_8⟩ := hI.haveQ 8 _ 32 (.val (.agg ar2_2)) rfl rfl rfl rfl
            obtain rfl := hsr4_8
            obtain ⟨vr4_9, hvr4_9, hsr4_9⟩ := hI.haveQ 9 _ 33 (.val (.agg ar2_5)) rfl rfl rfl rfl
            obtain rfl := hsr4_9
            obtain ⟨vr4_10, hvr4_10, br4_10, zr4_10, rfl, hnr4_10, hbr4_10, hzr4_10⟩ := hI.haveQ 10 _ 34 (.blk (fun b => .slice (some ⟨b, 0, none⟩) 2 2) 41 (Ch 20 RP [some (eB.times (expo a)), some (eB.times (expo b))])) rfl rfl rfl rfl
            obtain ⟨vr4_11, hvr4_11, ar4_11, rfl, hCr4_11⟩ := hI.haveQ 11 _ 35 (.like (IsC 20 RP [some ((eB.times (expo a)).plus (eB.times (expo b)))])) rfl rfl rfl rfl
            obtain ⟨vr4_12, hvr4_12, hsr4_12⟩ := hI.haveQ 12 _ 36 (.val (.agg ar2_2)) rfl rfl rfl rfl
            obtain rfl := hsr4_12
            obtain ⟨vr4_13, hvr4_13, br4_13, zr4_13, rfl, hnr4_13, hbr4_13, hzr4_13⟩ := hI.haveQ 13 _ 37 (.blk (fun b => .slice (some ⟨b, 0, none⟩) 2 2) 41 (Ch 20 RP [some ((eB.times (expo a)).plus (eB.times (expo b))), some (eB.times (expo a))])) rfl rfl rfl rfl
            obtain ⟨vr4_14, hvr4_14, ar4_14, rfl, hCr4_14⟩ := hI.haveQ 14 _ 38 (.like (IsC 20 RP [some (((eB.times (expo a)).plus (eB.times (expo b))).plus (eB.times (expo a)))])) rfl rfl rfl rfl
            obtain ⟨vr4_15, hvr4_15, hsr4_15⟩ := hI.haveQ 15 _ 39 (.val (.agg ar2_2)) rfl rfl rfl rfl
            obtain rfl := hsr4_15
            obtain ⟨vr4_16, hvr4_16, hsr4_16⟩ := hI.haveQ 16 _ 40 (.val (.agg ar2_5)) rfl rfl rfl rfl
            obtain rfl := hsr4_16
            obtain ⟨vr4_17, hvr4_17, hsr4_17⟩ := hI.haveQ 17 _ 41 (.val (.agg ar2_2)) rfl rfl rfl rfl
            obtain rfl := hsr4_17
            obtain ⟨vr4_18, hvr4_18, br4_18, zr4_18, rfl, hnr4_18, hbr4_18, hzr4_18⟩ := hI.haveQ 18 _ 42 (.blk (fun b => .slice (some ⟨b, 0, none⟩) 2 2) 41 (Ch 20 RP [some (eB.times (expo b)), some (eB.times (expo a))])) rfl rfl rfl rfl
            obtain ⟨vr4_19, hvr4_19, ar4_19, rfl, hCr4_19⟩ := hI.haveQ 19 _ 43 (.like (IsC 20 RP [some ((eB.times (expo b)).plus (eB.times (expo a)))])) rfl rfl rfl rfl
            obtain ⟨vr4_20, hvr4_20, br4_20, zr4_20, rfl, hnr4_20, hbr4_20, hzr4_20⟩ := hI.haveQ 20 _ 44 (.blk (fun b => .slice (some ⟨b, 0, none⟩) 2 2) 41 (Ch 20 RP [some (eB.times (expo a)), some ((eB.times (expo b)).plus (eB.times (expo a)))])) rfl rfl rfl rfl
            obtain ⟨vr4_21, hvr4_21, ar4_21, rfl, hCr4_21⟩ := hI.haveQ 21 _ 45 (.like (IsC 20 RP [some ((eB.times (expo a)).plus ((eB.times (expo b)).plus (eB.times (expo a))))])) rfl rfl rfl rfl
            obtain ⟨vr4_22, hvr4_22, hsr4_22⟩ := hI.haveQ 22 _ 46 (.val (.bool true)) rfl rfl rfl rfl
            obtain rfl := hsr4_22
            obtain ⟨vr4_23, hvr4_23, hsr4_23⟩ := hI.haveQ 23 _ 47 (.val (.bool false)) rfl rfl rfl rfl
            obtain rfl := hsr4_23
            obtain ⟨vr4_24, hvr4_24, hsr4_24⟩ := hI.haveQ 24 _ 48 (.val (.bool false)) rfl rfl rfl rfl
            obtain rfl := hsr4_24
            obtain ⟨vr4_25, hvr4_25, hsr4_25⟩ := hI.haveQ 25 _ 49 (.val (.bool false)) rfl rfl rfl rfl
            obtain rfl := hsr4_25
            obtain ⟨vr4_26, hvr4_26, hsr4_26⟩ := hI.haveQ 26 _ 50 (.val (.agg ar2_2)) rfl rfl rfl rfl
            obtain rfl := hsr4_26
            obtain ⟨vr4_27, hvr4_27, hsr4_27⟩ := hI.haveQ 27 _ 51 (.val (.agg ar2_5)) rfl rfl rfl rfl
            obtain rfl := hsr4_27
            obtain ⟨vr4_28, hvr4_28, hsr4_28⟩ := hI.haveQ 28 _ 52 (.val (.bool false)) rfl rfl rfl rfl
            obtain rfl := hsr4_28
            obtain ⟨vr4_29, hvr4_29, hsr4_29⟩ := hI.haveQ 29 _ 53 (.val (.agg ar2_2)) rfl rfl rfl rfl
            obtain rfl := hsr4_29
            obtain ⟨vr4_30, hvr4_30, hsr4_30⟩ := hI.haveQ 30 _ 54 (.val (.agg (numsA .u8 (encP (eB.times (expo a)))))) rfl rfl rfl rfl
            obtain rfl := hsr4_30
            obtain ⟨vr4_31, hvr4_31, hsr4_31⟩ := hI.haveQ 31 _ 55 (.val (.agg ar2_5)) rfl rfl rfl rfl
            obtain rfl := hsr4_31
            obtain ⟨vr4_32, hvr4_32, hsr4_32⟩ := hI.haveQ 32 _ 56 (.val (.agg (numsA .u8 (encP (eB.times (expo b)))))) rfl rfl rfl rfl
            obtain rfl := hsr4_32
            obtain ⟨vr4_33, hvr4_33, hsr4_33⟩ := hI.haveQ 33 _ 57 (.val (.bool false)) rfl rfl rfl rfl
            obtain rfl := hsr4_33
            obtain ⟨vr4_34, hvr4_34, hsr4_34⟩ := hI.haveQ 34 _ 58 (.val (.bool false)) rfl rfl rfl rfl
            obtain rfl := hsr4_34
            obtain ⟨vr4_35, hvr4_35, hsr4_35⟩ := hI.haveQ 35 _ 59 (.val (.bool false)) rfl rfl rfl rfl
            obtain rfl := hsr4_35
            have hupd := hI.upd
            have ha := hI.act [(24, .agg ar3_3), (25, .agg ar2_5), (26, .agg ar2_2), (27, .slice (some ⟨br4_3, 0, none⟩) 2 2), (28, .agg ar4_4), (29, .bool true), (30, .bool false), (31, .bool false), (32, .agg ar2_2), (33, .agg ar2_5), (34, .slice (some ⟨br4_10, 0, none⟩) 2 2), (35, .agg ar4_11), (36, .agg ar2_2), (37, .slice (some ⟨br4_13, 0, none⟩) 2 2), (38, .agg ar4_14), (39, .agg ar2_2), (40, .agg ar2_5), (41, .agg ar2_2), (42, .slice (some ⟨br4_18, 0, none⟩) 2 2), (43, .agg ar4_19), (44, .slice (some ⟨br4_20, 0, none⟩) 2 2), (45, .agg ar4_21), (46, .bool true), (47, .bool false), (48, .bool false), (49, .bool false), (50, .agg ar2_2), (51, .agg ar2_5), (52, .bool false), (53, .agg ar2_2), (54, .agg (numsA .u8 (encP (eB.times (expo a))))), (55, .agg ar2_5), (56, .agg (numsA .u8 (encP (eB.times (expo b))))), (57, .bool false), (58, .bool false), (59, .bool false)] (by simp [hvr4_0, hvr4_1, hvr4_2, hvr4_3, hvr4_4, hvr4_5, hvr4_6, hvr4_7, hvr4_8, hvr4_9, hvr4_10, hvr4_11, hvr4_12, hvr4_13, hvr4_14, hvr4_15, hvr4_16, hvr4_17, hvr4_18, hvr4_19, hvr4_20, hvr4_21, hvr4_22, hvr4_23, hvr4_24, hvr4_25, hvr4_26, hvr4_27, hvr4_28, hvr4_29, hvr4_30, hvr4_31, hvr4_32, hvr4_33, hvr4_34, hvr4_35]) (by kernel_rfl)
            clear hI hvr4_0 hvr4_1 hvr4_2 hvr4_3 hvr4_4 hvr4_5 hvr4_6 hvr4_7 hvr4_8 hvr4_9 hvr4_10 hvr4_11 hvr4_12 hvr4_13 hvr4_14 hvr4_15 hvr4_16 hvr4_17 hvr4_18 hvr4_19 hvr4_20 hvr4_21 hvr4_22 hvr4_23 hvr4_24 hvr4_25 hvr4_26 hvr4_27 hvr4_28 hvr4_29 hvr4_30 hvr4_31 hvr4_32 hvr4_33 hvr4_34 hvr4_35
            subst ha
            simp only [List.foldl_cons, List.foldl_nil, List.setIfInBounds_toArray, List.set_cons_zero, List.set_cons_succ]
            have Bxr0y0_4 := Lib.hid (hupd.blk (show Blk ws3_0.drew br0_0 23 (numsA .u8 a) from Bxr0y0_s3_0.out) (fun h => h))
            have Bxr0y1_4 := Lib.hid (hupd.blk (show Blk ws3_0.drew br0_1 23 (numsA .u8 b) from Bxr0y1_s3_0.out) (fun h => h))
            have Bxr2y6_4 := Lib.hid (hupd.blk (show Blk ws3_0.drew br2_6 41 ar2_2 from Bxr2y6_s3_0.out) (fun h => h))
            have Bxr2y7_4 := Lib.hid (hupd.blk (show Blk ws3_0.drew br2_7 41 ar2_5 from Bxr2y7_s3_0.out) (fun h => h))
            have Bxr3y4_4 := Lib.hid (hupd.blk (show Blk ws3_0.drew br3_4 41 ar3_3 from Bxr3y4_s3_0.out) (fun h => h))
            have HU4 := Lib.hid (HU3_0.out.drew.trans hupd)
            clear hupd
            refine wpAny_done (by kernel_rfl) ?_ _
            refine hK6 _ _ ?_
            clear hK6
            refine wp_cond_false rfl ?_
            refine wp_skip ?_
            refine hK5 _ _ ?_
            clear hK5
            refine wp_seq_k fun K7 hK7 => ?_
            refine wp_region_qS 2 #[true, true, false] [2] ([.like (IsC 20 RP [some EP.nil]), .blk ptrTo 41 (Ch 20 RP [none]), .val undef] : List SQ) (by kernel_rfl) (by kernel_rfl) (by kernel_rfl) ?_ ?_
            · intro i o listed an wn ho hls hst hun hdep hI hpre K' hK'
              have hi : i = 0 ∨ i = 1 ∨ False := slot_cases (l := [0, 1]) rfl ho hst
              rcases hi with rfl | rfl | hi
              · obtain rfl := Option.some.inj ho
                exact hI.callQ (by kernel_rfl) hls rfl rfl rfl 33 #[] _ rfl #[] (by simp) (run_enter Tryd.func33 (by kernel_rfl) (by kernel_rfl)) (.like (IsC 20 RP [some EP.nil])) rfl rfl ((zeroR _ ).mono fun _ _ h => h.sq) hK'
              · obtain rfl := Option.some.inj ho
                exact hI.newQ (by kernel_rfl) hls (Nat.le_refl _) (newsQ_spec (l := [1]) (by kernel_rfl) ⟨⟨_, _, rfl⟩, trivial⟩) rfl rfl rfl 41 zPt _ (run_allocQ rfl zPt_run wn) rfl zPt_p hK'
              · exact hi.elim
            · intro an w6 hI
              obtain ⟨vr5_0, hvr5_0, ar5_0, rfl, hCr5_0⟩ := hI.haveQ 0 _ 60 (.like (IsC 20 RP [some EP.nil])) rfl rfl rfl rfl
              obtain ⟨vr5_1, hvr5_1, br5_1, zr5_1, rfl, hnr5_1, hbr5_1, hzr5_1⟩ := hI.haveQ 1 _ 10 (.blk ptrTo 41 (Ch 20 RP [none])) rfl rfl rfl rfl
              have hupd := hI.upd
              have ha := hI.act [(60, .agg ar5_0), (10, ptrTo br5_1)] (by simp [hvr5_0, hvr5_1]) (by kernel_rfl)
              clear hI hvr5_0 hvr5_1
              subst ha
              simp only [List.foldl_cons, List.foldl_nil, List.setIfInBounds_toArray, List.set_cons_zero, List.set_cons_succ]
              have hner5_1_Bxr0y0_4 := Lib.hid (show br5_1 ≠ br0_0 from Nat.ne_of_gt (Nat.lt_of_lt_of_le Bxr0y0_4.out.lt hnr5_1))
              have hner5_1_Bxr0y1_4 := Lib.hid (show br5_1 ≠ br0_1 from Nat.ne_of_gt (Nat.lt_of_lt_of_le Bxr0y1_4.out.lt hnr5_1))
              have hner5_1_Bxr2y6_4 := Lib.hid (show br5_1 ≠ br2_6 from Nat.ne_of_gt (Nat.lt_of_lt_of_le Bxr2y6_4.out.lt hnr5_1))
              have hner5_1_Bxr2y7_4 := Lib.hid (show br5_1 ≠ br2_7 from Nat.ne_of_gt (Nat.lt_of_lt_of_le Bxr2y7_4.out.lt hnr5_1))
              have hner5_1_Bxr3y4_4 := Lib.hid (show br5_1 ≠ br3_4 from Nat.ne_of_gt (Nat.lt_of_lt_of_le Bxr3y4_4.out.lt hnr5_1))
              have hger5_1 := Lib.hid (Nat.le_trans HU4.out.size hnr5_1)
              have Bxr0y0_5 := Lib.hid (hupd.blk (show Blk w5 br0_0 23 (numsA .u8 a) from Bxr0y0_4.out) (fun h => h))
              have Bxr0y1_5 := Lib.hid (hupd.blk (show Blk w5 br0_1 23 (numsA .u8 b) from Bxr0y1_4.out) (fun h => h))
              have Bxr2y6_5 := Lib.hid (hupd.blk (show Blk w5 br2_6 41 ar2_2 from Bxr2y6_4.out) (fun h => h))
              have Bxr2y7_5 := Lib.hid (hupd.blk (show Blk w5 br2_7 41 ar2_5 from Bxr2y7_4.out) (fun h => h))
              have Bxr3y4_5 := Lib.hid (hupd.blk (show Blk w5 br3_4 41 ar3_3 from Bxr3y4_4.out) (fun h => h))
              have Bxr5y1 := Lib.hid hbr5_1
              have HU5 := Lib.hid (HU4.out.trans hupd)
              clear hupd
              refine wpOps_storeQ 2 rfl rfl rfl 41 (.tmp 10) (.tmp 60) rfl br5_1 0 20 rfl ar5_0 rfl 41 zr5_1 Bxr5y1.out szPt hCr5_0.size (by rw [hzr5_1.size]; exact Nat.le_of_ble_eq_true rfl) hCr5_0.one' ?_
              intro ws5_0 hs5_0 hus5_0
              rw [splice_all _ _ 20 hzr5_1.size hCr5_0.size] at hs5_0
              have Bxr0y0_s5_0 := Lib.hid (hus5_0.blk Bxr0y0_5.out (fun e => hner5_1_Bxr0y0_4.out e.symm))
              have Bxr0y1_s5_0 := Lib.hid (hus5_0.blk Bxr0y1_5.out (fun e => hner5_1_Bxr0y1_4.out e.symm))
              have Bxr2y6_s5_0 := Lib.hid (hus5_0.blk Bxr2y6_5.out (fun e => hner5_1_Bxr2y6_4.out e.symm))
              have Bxr2y7_s5_0 := Lib.hid (hus5_0.blk Bxr2y7_5.out (fun e => hner5_1_Bxr2y7_4.out e.symm))
              have Bxr3y4_s5_0 := Lib.hid (hus5_0.blk Bxr3y4_5.out (fun e => hner5_1_Bxr3y4_4.out e.symm))
              have Bxr5y1_s5_0 := Lib.hid hs5_0
              have HU5_0 := Lib.hid (HU5.out.step hus5_0 (fun i hi h => absurd hi (Nat.not_lt.2 (h.symm ▸ hger5_1.out))))
              clear hs5_0 hus5_0
              refine wpOps_nil ?_
              refine hK7 _ _ ?_
              clear hK7
              refine wp_seq_k fun K8 hK8 => ?_
              refine wp_seq_k fun K9 hK9 => ?_
              refine wp_region_qS 1 #[true] [] ([.val (.int .u8 0)] : List SQ) (by kernel_rfl) (by kernel_rfl) (by kernel_rfl) ?_ ?_
              · intro i o listed an wn ho hls hst hun hdep hI hpre K' hK'
                have hi : i = 0 ∨ False := slot_cases (l := [0]) rfl ho hst
                rcases hi with rfl | hi
                · obtain rfl := Option.some.inj ho
                  exact hI.pureQ (by kernel_rfl) hls rfl rfl rfl (.int .u8 0) (run_moveQ (.inr rfl) (show an.eval (.const (.int .u8 0)) = .int .u8 0 from rfl) wn) (.val (.int .u8 0)) rfl rfl rfl hK'
                · exact hi.elim
              · intro an w7 hI
                obtain ⟨vr6_0, hvr6_0, hsr6_0⟩ := hI.haveQ 0 _ 11 (.val (.int .u8 0)) rfl rfl rfl rfl
                obtain rfl := hsr6_0
                have hupd := hI.upd
                have ha := hI.act [(11, .int .u8 0)] (by simp [hvr6_0]) (by kernel_rfl)
                clear hI hvr6_0
                subst ha
                simp only [List.foldl_cons, List.foldl_nil, List.setIfInBounds_toArray, List.set_cons_zero, List.set_cons_succ]
                have Bxr0y0_6 := Lib.hid (hupd.blk (show Blk ws5_0 br0_0 23 (numsA .u8 a) from Bxr0y0_s5_0.out) (fun h => h))
                have Bxr0y1_6 := Lib.hid (hupd.blk (show Blk ws5_0 br0_1 23 (numsA .u8 b) from Bxr0y1_s5_0.out) (fun h => h))
                have Bxr2y6_6 := Lib.hid (hupd.blk (show Blk ws5_0 br2_6 41 ar2_2 from Bxr2y6_s5_0.out) (fun h => h))
                have Bxr2y7_6 := Lib.hid (hupd.blk (show Blk ws5_0 br2_7 41 ar2_5 from Bxr2y7_s5_0.out) (fun h => h))
                have Bxr3y4_6 := Lib.hid (hupd.blk (show Blk ws5_0 br3_4 41 ar3_3 from Bxr3y4_s5_0.out) (fun h => h))
                have Bxr5y1_6 := Lib.hid (hupd.blk (show Blk ws5_0 br5_1 41 ar5_0 from Bxr5y1_s5_0.out) (fun h => h))
                have HU6 := Lib.hid (HU5_0.out.trans hupd)
                clear hupd
                refine wpOps_nil ?_
                refine hK9 _ _ ?_
                clear hK9
                refine wp_block ?_
                refine wp_loop (fun a' w' => ∃ (k : Nat) (u10_61 u10_62 u10_63 u10_64 u10_65 u10_66 u10_67 u10_68 u10_69 u10_70 : Value) (A10_10 : Array Value), k ≤ (n % 20).toNat ∧ a' = ⟨#[.agg (numsA .u8 a), .agg (numsA .u8 b), .int .u8 n, ptrTo br0_0, ptrTo br0_1, undef, .bool false, ptrTo br2_6, ptrTo br2_7, ptrTo br3_4, ptrTo br5_1, .int .u8 (k : Int), .bool true, .bool false, .agg ar2_0, .agg (numsA .u8 a), .agg ar2_2, .agg ar2_3, .agg (numsA .u8 b), .agg ar2_5, .agg ar2_2, .agg ar2_5, .slice (some ⟨br3_2, 0, none⟩) 2 2, .agg ar3_3, .agg ar3_3, .agg ar2_5, .agg ar2_2, .slice (some ⟨br4_3, 0, none⟩) 2 2, .agg ar4_4, .bool true, .bool false, .bool false, .agg ar2_2, .agg ar2_5, .slice (some ⟨br4_10, 0, none⟩) 2 2, .agg ar4_11, .agg ar2_2, .slice (some ⟨br4_13, 0, none⟩) 2 2, .agg ar4_14, .agg ar2_2, .agg ar2_5, .agg ar2_2, .slice (some ⟨br4_18, 0, none⟩) 2 2, .agg ar4_19, .slice (some ⟨br4_20, 0, none⟩) 2 2, .agg ar4_21, .bool true, .bool false, .bool false, .bool false, .agg ar2_2, .agg ar2_5, .bool false, .agg ar2_2, .agg (numsA .u8 (encP (eB.times (expo a)))), .agg ar2_5, .agg (numsA .u8 (encP (eB.times (expo b)))), .bool false, .bool false, .bool false, .agg ar5_0, u10_61, u10_62, u10_63, u10_64, u10_65, u10_66, u10_67, u10_68, u10_69, u10_70, undef, undef, undef, undef, undef, undef, undef], []⟩ ∧ Upd (fun _ => False) w w' ∧ Blk w' br5_1 41 A10_10 ∧ Ch 20 RP [some ((eB.times (expo a)).times k)] A10_10 ∧ Blk w' br0_0 23 (numsA .u8 a) ∧ Blk w' br0_1 23 (numsA .u8 b) ∧ Blk w' br2_6 41 ar2_2 ∧ Blk w' br2_7 41 ar2_5 ∧ Blk w' br3_4 41 ar3_3) (fun a' _ => ((n % 20).toNat) - (intOf (a'.tmps.getD 11 undef)).toNat) ?_ ?_
                · exact ⟨0, undef, undef, undef, undef, undef, undef, undef, undef, undef, undef, ar5_0, Nat.zero_le _, rfl, HU6.out, Bxr5y1_6.out, hCr5_0.to (rfl), Bxr0y0_6.out, Bxr0y1_6.out, Bxr2y6_6.out, Bxr2y7_6.out, Bxr3y4_6.out⟩
                · rintro a' wl10 ⟨k, u10_61, u10_62, u10_63, u10_64, u10_65, u10_66, u10_67, u10_68, u10_69, u10_70, A10_10, hk10, rfl, hul, hbl10, hcl10, hol0, hol1, hol2, hol3, hol4⟩
                  have HUl10 := Lib.hid hul
                  have Bxr5y1_l10 := Lib.hid hbl10
                  have Bxr0y0_l10 := Lib.hid hol0
                  have Bxr0y1_l10 := Lib.hid hol1
                  have Bxr2y6_l10 := Lib.hid hol2
                  have Bxr2y7_l10 := Lib.hid hol3
                  have Bxr3y4_l10 := Lib.hid hol4
                  clear hul hbl10 hol0 hol1 hol2 hol3 hol4
                  by_cases hlt : k < (n % 20).toNat
                  · have Hlt10 := Lib.hid hlt
                    refine wp_seq_k fun K11 hK11 => ?_
                    refine wp_seq_k fun K12 hK12 => ?_
                    have hq7_3 : decide ((((k : Int) : Int) < (n % 20) : Prop)) = true := decide_eq_true (by omega)
                    refine wp_region_qS 4 #[true, true, true, true] [] ([.val (.int .u8 (k : Int)), .val (.int .u8 n), .val (.int .u8 (n % 20)), .val (.bool true)] : List SQ) (by kernel_rfl) (by kernel_rfl) (by kernel_rfl) ?_ ?_
                    · intro i o listed an wn ho hls hst hun hdep hI hpre K' hK'
                      have hi : i = 0 ∨ i = 1 ∨ i = 2 ∨ i = 3 ∨ False := slot_cases (l := [0, 1, 2, 3]) rfl ho hst
                      rcases hi with rfl | rfl | rfl | rfl | hi
                      · obtain rfl := Option.some.inj ho
                        have hvp : an.eval (.tmp 11) = .int .u8 (k : Int) := hI.oldQ (by kernel_rfl) rfl
                        exact hI.pureQ (by kernel_rfl) hls rfl rfl rfl (.int .u8 (k : Int)) (run_moveQ (.inl rfl) hvp wn) (.val (.int .u8 (k : Int))) rfl rfl rfl hK'
                      · obtain rfl := Option.some.inj ho
                        have hvp : an.eval (.tmp 2) = .int .u8 n := hI.oldQ (by kernel_rfl) rfl
                        exact hI.pureQ (by kernel_rfl) hls rfl rfl rfl (.int .u8 n) (run_moveQ (.inl rfl) hvp wn) (.val (.int .u8 n)) rfl rfl rfl hK'
                      · obtain rfl := Option.some.inj ho
                        obtain ⟨vp, hvp, hsp⟩ := hI.haveQ 1 _ 62 (.val (.int .u8 n)) rfl rfl rfl (hdep ⟨1, .data⟩ (by simp) rfl)
                        obtain rfl := hsp
                        exact hI.pureQ (by kernel_rfl) hls rfl rfl rfl (.int .u8 (n % 20)) (run_rem rfl (eval_of hvp) rfl (by decide) (Int.tmod_eq_emod_of_nonneg hn.1) wn) (.val (.int .u8 (n % 20))) rfl rfl rfl hK'
                      · obtain rfl := Option.some.inj ho
                        obtain ⟨vp, hvp, hsp⟩ := hI.haveQ 0 _ 61 (.val (.int .u8 (k : Int))) rfl rfl rfl (hdep ⟨0, .data⟩ (by simp) rfl)
                        obtain rfl := hsp
                        obtain ⟨vq, hvq, hsq⟩ := hI.haveQ 2 _ 63 (.val (.int .u8 (n % 20))) rfl rfl rfl (hdep ⟨2, .data⟩ (by simp) rfl)
                        obtain rfl := hsq
                        exact hI.pureQ (by kernel_rfl) hls rfl rfl rfl (.bool true) (run_lss rfl (eval_of hvp) (eval_of hvq) hq7_3 wn) (.val (.bool true)) rfl rfl rfl hK'
                      · exact hi.elim
                    · intro an w8 hI
                      obtain ⟨vr7_0, hvr7_0, hsr7_0⟩ := hI.haveQ 0 _ 61 (.val (.int .u8 (k : Int))) rfl rfl rfl rfl
                      obtain rfl := hsr7_0
                      obtain ⟨vr7_1, hvr7_1, hsr7_1⟩ := hI.haveQ 1 _ 62 (.val (.int .u8 n)) rfl rfl rfl rfl
                      obtain rfl := hsr7_1
                      obtain ⟨vr7_2, hvr7_2, hsr7_2⟩ := hI.haveQ 2 _ 63 (.val (.int .u8 (n % 20))) rfl rfl rfl rfl
                      obtain rfl := hsr7_2
                      obtain ⟨vr7_3, hvr7_3, hsr7_3⟩ := hI.haveQ 3 _ 64 (.val (.bool true)) rfl rfl rfl rfl
                      obtain rfl := hsr7_3
                      have hupd := hI.upd
                      have ha := hI.act [(61, .int .u8 (k : Int)), (62, .int .u8 n), (63, .int .u8 (n % 20)), (64, .bool true)] (by simp [hvr7_0, hvr7_1, hvr7_2, hvr7_3]) (by kernel_rfl)
                      clear hI hvr7_0 hvr7_1 hvr7_2 hvr7_3
                      subst ha
                      simp only [List.foldl_cons, List.foldl_nil, List.setIfInBounds_toArray, List.set_cons_zero, List.set_cons_succ]
                      have Bxr0y0_7 := Lib.hid (hupd.blk (show Blk wl10 br0_0 23 (numsA .u8 a) from Bxr0y0_l10.out) (fun h => h))
                      have Bxr0y1_7 := Lib.hid (hupd.blk (show Blk wl10 br0_1 23 (numsA .u8 b) from Bxr0y1_l10.out) (fun h => h))
                      have Bxr2y6_7 := Lib.hid (hupd.blk (show Blk wl10 br2_6 41 ar2_2 from Bxr2y6_l10.out) (fun h => h))
                      have Bxr2y7_7 := Lib.hid (hupd.blk (show Blk wl10 br2_7 41 ar2_5 from Bxr2y7_l10.out) (fun h => h))
                      have Bxr3y4_7 := Lib.hid (hupd.blk (show Blk wl10 br3_4 41 ar3_3 from Bxr3y4_l10.out) (fun h => h))
                      have Bxr5y1_7 := Lib.hid (hupd.blk (show Blk wl10 br5_1 41 A10_10 from Bxr5y1_l10.out) (fun h => h))
                      have HU7 := Lib.hid (HUl10.out.trans hupd)
                      clear hupd
                      refine wpOps_nil ?_
                      refine hK12 _ _ ?_
                      clear hK12
                      refine wp_cond_true rfl ?_
                      refine wp_skip ?_
                      refine hK11 _ _ ?_
                      clear hK11
                      refine wp_seq_k fun K13 hK13 => ?_
                      refine wp_block ?_
                      refine wp_region_qS 4 #[true, true, true, true, false] [4] ([.val (.agg A10_10), .val (.agg ar2_2), .blk (fun b => .slice (some ⟨b, 0, none⟩) 2 2) 41 (Ch 20 RP [some ((eB.times (expo a)).times k), some (eB.times (expo a))]), .like (IsC 20 RP [some (((eB.times (expo a)).times k).plus (eB.times (expo a)))]), .val undef] : List SQ) (by kernel_rfl) (by kernel_rfl) (by kernel_rfl) ?_ ?_
                      · intro i o listed an wn ho hls hst hun hdep hI hpre K' hK'
                        have hi : i = 0 ∨ i = 1 ∨ i = 2 ∨ i = 3 ∨ False := slot_cases (l := [0, 1, 2, 3]) rfl ho hst
                        rcases hi with rfl | rfl | rfl | rfl | hi
                        · obtain rfl := Option.some.inj ho
                          have hvp : an.eval (.tmp 10) = ptrTo br5_1 := hI.oldQ (by kernel_rfl) rfl
                          exact hI.pureQ (by kernel_rfl) hls rfl rfl rfl _ (run_loadQ rfl hvp wn (hI.upd.blk (show Blk w8 br5_1 41 A10_10 from Bxr5y1_7.out) (fun h => h)) Tryd.underlying41 rfl szPt (by rw [hcl10.size]; exact Nat.le_of_ble_eq_true rfl)) (.val (.agg A10_10)) rfl (congrArg Value.agg (extract_all _ 20 hcl10.size)) rfl hK'
                        · obtain rfl := Option.some.inj ho
                          have hvp : an.eval (.tmp 7) = ptrTo br2_6 := hI.oldQ (by kernel_rfl) rfl
                          exact hI.pureQ (by kernel_rfl) hls rfl rfl rfl _ (run_loadQ rfl hvp wn (hI.upd.blk (show Blk w8 br2_6 41 ar2_2 from Bxr2y6_7.out) (fun h => h)) Tryd.underlying41 rfl szPt (by rw [hCr2_2.size]; exact Nat.le_of_ble_eq_true rfl)) (.val (.agg ar2_2)) rfl (congrArg Value.agg (extract_all _ 20 hCr2_2.size)) rfl hK'
                        · obtain rfl := Option.some.inj ho
                          obtain ⟨vp, hvp, hsp⟩ := hI.haveQ 0 _ 67 (.val (.agg A10_10)) rfl rfl rfl (hdep ⟨0, .data⟩ (by simp) rfl)
                          obtain rfl := hsp
                          obtain ⟨vq, hvq, hsq⟩ := hI.haveQ 1 _ 68 (.val (.agg ar2_2)) rfl rfl rfl (hdep ⟨1, .data⟩ (by simp) rfl)
                          obtain rfl := hsq
                          exact hI.rowQ (by kernel_rfl) hls (Nat.le_refl _) rfl rfl rfl _ _ _ _ (run_pts2 rfl (eval_of hvp) (eval_of hvq) hcl10.size hCr2_2.size wn) rfl (hcl10.cat hCr2_2) rfl hK'
                        · obtain rfl := Option.some.inj ho
                          obtain ⟨vp, hvp, bp, zp, rfl, hnp, hbp, hzp⟩ := hI.haveQ 2 _ 69 (.blk (fun b => .slice (some ⟨b, 0, none⟩) 2 2) 41 (Ch 20 RP [some ((eB.times (expo a)).times k), some (eB.times (expo a))])) rfl rfl rfl (hdep ⟨2, .data⟩ (by simp) rfl)
                          exact hI.callQ (by kernel_rfl) hls rfl rfl rfl 28 #[.tmp 69] _ rfl #[.slice (some ⟨bp, 0, none⟩) 2 2] (by simp [eval_of hvp]) (run_enter Tryd.func28 (by kernel_rfl) (by kernel_rfl)) (.like (IsC 20 RP [some (((eB.times (expo a)).times k).plus (eB.times (expo a)))])) rfl rfl ((addR2 _ (HT.out.upd (HU7.out.trans hI.upd)) hbp hzp).mono fun _ _ h => h.sq) hK'
                        · exact hi.elim
                      · intro an w9 hI
                        obtain ⟨vr8_0, hvr8_0, hsr8_0⟩ := hI.haveQ 0 _ 67 (.val (.agg A10_10)) rfl rfl rfl rfl
                        obtain rfl := hsr8_0
                        obtain ⟨vr8_1, hvr8_1, hsr8_1⟩ := hI.haveQ 1 _ 68 (.val (.agg ar2_2)) rfl rfl rfl rfl
                        obtain rfl := hsr8_1
                        obtain ⟨vr8_2, hvr8_2, br8_2, zr8_2, rfl, hnr8_2, hbr8_2, hzr8_2⟩ := hI.haveQ 2 _ 69 (.blk (fun b => .slice (some ⟨b, 0, none⟩) 2 2) 41 (Ch 20 RP [some ((eB.times (expo a)).times k), some (eB.times (expo a))])) rfl rfl rfl rfl
                        obtain ⟨vr8_3, hvr8_3, ar8_3, rfl, hCr8_3⟩ := hI.haveQ 3 _ 70 (.like (IsC 20 RP [some (((eB.times (expo a)).times k).plus (eB.times (expo a)))])) rfl rfl rfl rfl
                        have hupd := hI.upd
                        have ha := hI.act [(67, .agg A10_10), (68, .agg ar2_2), (69, .slice (some ⟨br8_2, 0, none⟩) 2 2), (70, .agg ar8_3)] (by simp [hvr8_0, hvr8_1, hvr8_2, hvr8_3]) (by kernel_rfl)
                        clear hI hvr8_0 hvr8_1 hvr8_2 hvr8_3
                        subst ha
                        simp only [List.foldl_cons, List.foldl_nil, List.setIfInBounds_toArray, List.set_cons_zero, List.set_cons_succ]
                        have Bxr0y0_8 := Lib.hid (hupd.blk (show Blk w8 br0_0 23 (numsA .u8 a) from Bxr0y0_7.out) (fun h => h))
                        have Bxr0y1_8 := Lib.hid (hupd.blk (show Blk w8 br0_1 23 (numsA .u8 b) from Bxr0y1_7.out) (fun h => h))
                        have Bxr2y6_8 := Lib.hid (hupd.blk (show Blk w8 br2_6 41 ar2_2 from Bxr2y6_7.out) (fun h => h))
                        have Bxr2y7_8 := Lib.hid (hupd.blk (show Blk w8 br2_7 41 ar2_5 from Bxr2y7_7.out) (fun h => h))
                        have Bxr3y4_8 := Lib.hid (hupd.blk (show Blk w8 br3_4 41 ar3_3 from Bxr3y4_7.out) (fun h => h))
                        have Bxr5y1_8 := Lib.hid (hupd.blk (show Blk w8 br5_1 41 A10_10 from Bxr5y1_7.out) (fun h => h))
                        have HU8 := Lib.hid (HU7.out.trans hupd)
                        clear hupd
                        refine wpOps_storeQ 4 rfl rfl rfl 41 (.tmp 10) (.tmp 70) rfl br5_1 0 20 rfl ar8_3 rfl 41 A10_10 Bxr5y1_8.out szPt hCr8_3.size (by rw [hcl10.size]; exact Nat.le_of_ble_eq_true rfl) hCr8_3.one' ?_
                        intro ws8_0 hs8_0 hus8_0
                        rw [splice_all _ _ 20 hcl10.size hCr8_3.size] at hs8_0
                        have Bxr0y0_s8_0 := Lib.hid (hus8_0.blk Bxr0y0_8.out (fun e => hner5_1_Bxr0y0_4.out e.symm))
                        have Bxr0y1_s8_0 := Lib.hid (hus8_0.blk Bxr0y1_8.out (fun e => hner5_1_Bxr0y1_4.out e.symm))
                        have Bxr2y6_s8_0 := Lib.hid (hus8_0.blk Bxr2y6_8.out (fun e => hner5_1_Bxr2y6_4.out e.symm))
                        have Bxr2y7_s8_0 := Lib.hid (hus8_0.blk Bxr2y7_8.out (fun e => hner5_1_Bxr2y7_4.out e.symm))
                        have Bxr3y4_s8_0 := Lib.hid (hus8_0.blk Bxr3y4_8.out (fun e => hner5_1_Bxr3y4_4.out e.symm))
                        have Bxr5y1_s8_0 := Lib.hid hs8_0
                        have HU8_0 := Lib.hid (HU8.out.step hus8_0 (fun i hi h => absurd hi (Nat.not_lt.2 (h.symm ▸ hger5_1.out))))
                        clear hs8_0 hus8_0
                        refine wpOps_nil ?_
                        refine hK13 _ _ ?_
                        clear hK13
                        have hq9_1 : IntKind.wrap .u8 ((k : Int) + 1) = (k : Int) + 1 := IntWalk.u8_in _ (by omega)
                        refine wp_region_qS 3 #[true, true, true] [] ([.val (.int .u8 (k : Int)), .val (.int .u8 ((k : Int) + 1)), .val (.int .u8 ((k : Int) + 1))] : List SQ) (by kernel_rfl) (by kernel_rfl) (by kernel_rfl) ?_ ?_
                        · intro i o listed an wn ho hls hst hun hdep hI hpre K' hK'
                          have hi : i = 0 ∨ i = 1 ∨ i = 2 ∨ False := slot_cases (l := [0, 1, 2]) rfl ho hst
                          rcases hi with rfl | rfl | rfl | hi
                          · obtain rfl := Option.some.inj ho
                            have hvp : an.eval (.tmp 11) = .int .u8 (k : Int) := hI.oldS hpre (by kernel_rfl) rfl
                            exact hI.pureQ (by kernel_rfl) hls rfl rfl rfl (.int .u8 (k : Int)) (run_moveQ (.inl rfl) hvp wn) (.val (.int .u8 (k : Int))) rfl rfl rfl hK'
                          · obtain rfl := Option.some.inj ho
                            obtain ⟨vp, hvp, hsp⟩ := hI.haveQ 0 _ 65 (.val (.int .u8 (k : Int))) rfl rfl rfl (hdep ⟨0, .data⟩ (by simp) rfl)
                            obtain rfl := hsp
                            exact hI.pureQ (by kernel_rfl) hls rfl rfl rfl (.int .u8 ((k : Int) + 1)) (run_add rfl (eval_of hvp) rfl hq9_1 wn) (.val (.int .u8 ((k : Int) + 1))) rfl rfl rfl hK'
                          · obtain rfl := Option.some.inj ho
                            obtain ⟨vp, hvp, hsp⟩ := hI.haveQ 1 _ 66 (.val (.int .u8 ((k : Int) + 1))) rfl rfl rfl (hdep ⟨1, .data⟩ (by simp) rfl)
                            obtain rfl := hsp
                            exact hI.pureQ (by kernel_rfl) hls rfl rfl rfl (.int .u8 ((k : Int) + 1)) (run_moveQ (.inr rfl) (eval_of hvp) wn) (.val (.int .u8 ((k : Int) + 1))) rfl rfl rfl hK'
                          · exact hi.elim
                        · intro an w10 hI
                          obtain ⟨vr9_0, hvr9_0, hsr9_0⟩ := hI.haveQ 0 _ 65 (.val (.int .u8 (k : Int))) rfl rfl rfl rfl
                          obtain rfl := hsr9_0
                          obtain ⟨vr9_1, hvr9_1, hsr9_1⟩ := hI.haveQ 1 _ 66 (.val (.int .u8 ((k : Int) + 1))) rfl rfl rfl rfl
                          obtain rfl := hsr9_1
                          obtain ⟨vr9_2, hvr9_2, hsr9_2⟩ := hI.haveQ 2 _ 11 (.val (.int .u8 ((k : Int) + 1))) rfl rfl rfl rfl
                          obtain rfl := hsr9_2
                          have hupd := hI.upd
                          have ha := hI.act [(65, .int .u8 (k : Int)), (66, .int .u8 ((k : Int) + 1)), (11, .int .u8 ((k : Int) + 1))] (by simp [hvr9_0, hvr9_1, hvr9_2]) (by kernel_rfl)
                          clear hI hvr9_0 hvr9_1 hvr9_2
                          subst ha
                          simp only [List.foldl_cons, List.foldl_nil, List.setIfInBounds_toArray, List.set_cons_zero, List.set_cons_succ]
                          have Bxr0y0_9 := Lib.hid (hupd.blk (show Blk ws8_0 br0_0 23 (numsA .u8 a) from Bxr0y0_s8_0.out) (fun h => h))
                          have Bxr0y1_9 := Lib.hid (hupd.blk (show Blk ws8_0 br0_1 23 (numsA .u8 b) from Bxr0y1_s8_0.out) (fun h => h))
                          have Bxr2y6_9 := Lib.hid (hupd.blk (show Blk ws8_0 br2_6 41 ar2_2 from Bxr2y6_s8_0.out) (fun h => h))
                          have Bxr2y7_9 := Lib.hid (hupd.blk (show Blk ws8_0 br2_7 41 ar2_5 from Bxr2y7_s8_0.out) (fun h => h))
                          have Bxr3y4_9 := Lib.hid (hupd.blk (show Blk ws8_0 br3_4 41 ar3_3 from Bxr3y4_s8_0.out) (fun h => h))
                          have Bxr5y1_9 := Lib.hid (hupd.blk (show Blk ws8_0 br5_1 41 ar8_3 from Bxr5y1_s8_0.out) (fun h => h))
                          have HU9 := Lib.hid (HU8_0.out.trans hupd)
                          clear hupd
                          refine wpOps_nil ?_
                          exact ⟨⟨k + 1, _, _, _, _, _, _, _, _, _, _, _, Nat.succ_le_of_lt Hlt10.out, rfl, HU9.out, Bxr5y1_9.out, hCr8_3.to (rfl), Bxr0y0_9.out, Bxr0y1_9.out, Bxr2y6_9.out, Bxr2y7_9.out, Bxr3y4_9.out⟩, by show ((n % 20).toNat) - ((k : Int) + 1).toNat < ((n % 20).toNat) - (k : Int).toNat; have := Hlt10.out; omega⟩
                  · obtain rfl : k = (n % 20).toNat := by omega
                    clear hlt
                    refine wp_seq_k fun K14 hK14 => ?_
                    refine wp_seq_k fun K15 hK15 => ?_
                    have hq10_3 : decide ((((((n % 20).toNat : Nat) : Int) : Int) < (n % 20) : Prop)) = false := decide_eq_false (by omega)
                    refine wp_region_qS 4 #[true, true, true, true] [] ([.val (.int .u8 (((n % 20).toNat : Nat) : Int)), .val (.int .u8 n), .val (.int .u8 (n % 20)), .val (.bool false)] : List SQ) (by kernel_rfl) (by kernel_rfl) (by kernel_rfl) ?_ ?_
                    · intro i o listed an wn ho hls hst hun hdep hI hpre K' hK'
                      have hi : i = 0 ∨ i = 1 ∨ i = 2 ∨ i = 3 ∨ False := slot_cases (l := [0, 1, 2, 3]) rfl ho hst
                      rcases hi with rfl | rfl | rfl | rfl | hi
                      · obtain rfl := Option.some.inj ho
                        have hvp : an.eval (.tmp 11) = .int .u8 (((n % 20).toNat : Nat) : Int) := hI.oldQ (by kernel_rfl) rfl
                        exact hI.pureQ (by kernel_rfl) hls rfl rfl rfl (.int .u8 (((n % 20).toNat : Nat) : Int)) (run_moveQ (.inl rfl) hvp wn) (.val (.int .u8 (((n % 20).toNat : Nat) : Int))) rfl rfl rfl hK'
                      · obtain rfl := Option.some.inj ho
                        have hvp : an.eval (.tmp 2) = .int .u8 n := hI.oldQ (by kernel_rfl) rfl
                        exact hI.pureQ (by kernel_rfl) hls rfl rfl rfl (.int .u8 n) (run_moveQ (.inl rfl) hvp wn) (.val (.int .u8 n)) rfl rfl rfl hK'
                      · obtain rfl := Option.some.inj ho
                        obtain ⟨vp, hvp, hsp⟩ := hI.haveQ 1 _ 62 (.val (.int .u8 n)) rfl rfl rfl (hdep ⟨1, .data⟩ (by simp) rfl)
                        obtain rfl := hsp
                        exact hI.pureQ (by kernel_rfl) hls rfl rfl rfl (.int .u8 (n % 20)) (run_rem rfl (eval_of hvp) rfl (by decide) (Int.tmod_eq_emod_of_nonneg hn.1) wn) (.val (.int .u8 (n % 20))) rfl rfl rfl hK'
                      · obtain rfl := Option.some.inj ho
                        obtain ⟨vp, hvp, hsp⟩ := hI.haveQ 0 _ 61 (.val (.int .u8 (((n % 20).toNat : Nat) : Int))) rfl rfl rfl (hdep ⟨0, .data⟩ (by simp) rfl)
                        obtain rfl := hsp
                        obtain ⟨vq, hvq, hsq⟩ := hI.haveQ 2 _ 63 (.val (.int .u8 (n % 20))) rfl rfl rfl (hdep ⟨2, .data⟩ (by simp) rfl)
                        obtain rfl := hsq
                        exact hI.pureQ (by kernel_rfl) hls rfl rfl rfl (.bool false) (run_lss rfl (eval_of hvp) (eval_of hvq) hq10_3 wn) (.val (.bool false)) rfl rfl rfl hK'
                      · exact hi.elim
                    · intro an w11 hI
                      obtain ⟨vr10_0, hvr10_0, hsr10_0⟩ := hI.haveQ 0 _ 61 (.val (.int .u8 (((n % 20).toNat : Nat) : Int))) rfl rfl rfl rfl
                      obtain rfl := hsr10_0
                      obtain ⟨vr10_1, hvr10_1, hsr10_1⟩ := hI.haveQ 1 _ 62 (.val (.int .u8 n)) rfl rfl rfl rfl
                      obtain rfl := hsr10_1
                      obtain ⟨vr10_2, hvr10_2, hsr10_2⟩ := hI.haveQ 2 _ 63 (.val (.int .u8 (n % 20))) rfl rfl rfl rfl
                      obtain rfl := hsr10_2
                      obtain ⟨vr10_3, hvr10_3, hsr10_3⟩ := hI.haveQ 3 _ 64 (.val (.bool false)) rfl rfl rfl rfl
                      obtain rfl := hsr10_3
                      have hupd := hI.upd
                      have ha := hI.act [(61, .int .u8 (((n % 20).toNat : Nat) : Int)), (62, .int .u8 n), (63, .int .u8 (n % 20)), (64, .bool false)] (by simp [hvr10_0, hvr10_1, hvr10_2, hvr10_3]) (by kernel_rfl)
                      clear hI hvr10_0 hvr10_1 hvr10_2 hvr10_3
                      subst ha
                      simp only [List.foldl_cons, List.foldl_nil, List.setIfInBounds_toArray, List.set_cons_zero, List.set_cons_succ]
                      have Bxr0y0_10 := Lib.hid (hupd.blk (show Blk wl10 br0_0 23 (numsA .u8 a) from Bxr0y0_l10.out) (fun h => h))
                      have Bxr0y1_10 := Lib.hid (hupd.blk (show Blk wl10 br0_1 23 (numsA .u8 b) from Bxr0y1_l10.out) (fun h => h))
                      have Bxr2y6_10 := Lib.hid (hupd.blk (show Blk wl10 br2_6 41 ar2_2 from Bxr2y6_l10.out) (fun h => h))
                      have Bxr2y7_10 := Lib.hid (hupd.blk (show Blk wl10 br2_7 41 ar2_5 from Bxr2y7_l10.out) (fun h => h))
                      have Bxr3y4_10 := Lib.hid (hupd.blk (show Blk wl10 br3_4 41 ar3_3 from Bxr3y4_l10.out) (fun h => h))
                      have Bxr5y1_10 := Lib.hid (hupd.blk (show Blk wl10 br5_1 41 A10_10 from Bxr5y1_l10.out) (fun h => h))
                      have HU10 := Lib.hid (HUl10.out.trans hupd)
                      clear hupd
                      refine wpOps_nil ?_
                      refine hK15 _ _ ?_
                      clear hK15
                      refine wp_cond_false rfl ?_
                      refine wp_exit_then ?_
                      refine hK8 _ _ ?_
                      clear hK8
                      refine wp_seq_k fun K16 hK16 => ?_
                      refine wp_region_q #[true, true, true, true, true, true, true, true] ([.val (.agg A10_10), .val (.agg ar2_2), .val (.int .u8 n), .val (.int .u8 (n % 20)), .val (.agg (numsA .u8 ((n % 20) :: List.replicate 31 0))), .like (IsC 20 RP [some ((eB.times (expo a)).times (expo ((n % 20) :: List.replicate 31 0)))]), .val (.bool (edEq ((eB.times (expo a)).times ((n % 20).toNat)) ((eB.times (expo a)).times (expo ((n % 20) :: List.replicate 31 0))))), .val (.bool (edEq ((eB.times (expo a)).times ((n % 20).toNat)) ((eB.times (expo a)).times (expo ((n % 20) :: List.replicate 31 0)))))] : List SQ) (by kernel_rfl) (by kernel_rfl) (by kernel_rfl) ?_ ?_
                      · intro i o listed an wn ho hls hst hun hdep hI K' hK'
                        have hi : i = 0 ∨ i = 1 ∨ i = 2 ∨ i = 3 ∨ i = 4 ∨ i = 5 ∨ i = 6 ∨ i = 7 ∨ False := slot_cases (l := [0, 1, 2, 3, 4, 5, 6, 7]) rfl ho hst
                        rcases hi with rfl | rfl | rfl | rfl | rfl | rfl | rfl | rfl | hi
                        · obtain rfl := Option.some.inj ho
                          have hvp : an.eval (.tmp 10) = ptrTo br5_1 := hI.oldQ (by kernel_rfl) rfl
                          exact hI.pureQ (by kernel_rfl) hls rfl rfl rfl _ (run_loadQ rfl hvp wn (hI.upd.blk (show Blk w11.drew br5_1 41 A10_10 from Bxr5y1_10.out) (fun h => h)) Tryd.underlying41 rfl szPt (by rw [hcl10.size]; exact Nat.le_of_ble_eq_true rfl)) (.val (.agg A10_10)) rfl (congrArg Value.agg (extract_all _ 20 hcl10.size)) rfl hK'
                        · obtain rfl := Option.some.inj ho
                          have hvp : an.eval (.tmp 7) = ptrTo br2_6 := hI.oldQ (by kernel_rfl) rfl
                          exact hI.pureQ (by kernel_rfl) hls rfl rfl rfl _ (run_loadQ rfl hvp wn (hI.upd.blk (show Blk w11.drew br2_6 41 ar2_2 from Bxr2y6_10.out) (fun h => h)) Tryd.underlying41 rfl szPt (by rw [hCr2_2.size]; exact Nat.le_of_ble_eq_true rfl)) (.val (.agg ar2_2)) rfl (congrArg Value.agg (extract_all _ 20 hCr2_2.size)) rfl hK'
                        · obtain rfl := Option.some.inj ho
                          have hvp : an.eval (.tmp 2) = .int .u8 n := hI.oldQ (by kernel_rfl) rfl
                          exact hI.pureQ (by kernel_rfl) hls rfl rfl rfl (.int .u8 n) (run_moveQ (.inl rfl) hvp wn) (.val (.int .u8 n)) rfl rfl rfl hK'
                        · obtain rfl := Option.some.inj ho
                          obtain ⟨vp, hvp, hsp⟩ := hI.haveQ 2 _ 73 (.val (.int .u8 n)) rfl rfl rfl (hdep ⟨2, .data⟩ (by simp) rfl)
                          obtain rfl := hsp
                          exact hI.pureQ (by kernel_rfl) hls rfl rfl rfl (.int .u8 (n % 20)) (run_rem rfl (eval_of hvp) rfl (by decide) (Int.tmod_eq_emod_of_nonneg hn.1) wn) (.val (.int .u8 (n % 20))) rfl rfl rfl hK'
                        · obtain rfl := Option.some.inj ho
                          obtain ⟨vp, hvp, hsp⟩ := hI.haveQ 3 _ 74 (.val (.int .u8 (n % 20))) rfl rfl rfl (hdep ⟨3, .data⟩ (by simp) rfl)
                          obtain rfl := hsp
                          exact hI.pureQ (by kernel_rfl) hls rfl rfl rfl (.agg (numsA .u8 ((n % 20) :: List.replicate 31 0))) (run_buildK1 rfl (eval_of hvp) wn) (.val (.agg (numsA .u8 ((n % 20) :: List.replicate 31 0)))) rfl rfl rfl hK'
                        · obtain rfl := Option.some.inj ho
                          obtain ⟨vp, hvp, hsp⟩ := hI.haveQ 1 _ 72 (.val (.agg ar2_2)) rfl rfl rfl (hdep ⟨1, .data⟩ (by simp) rfl)
                          obtain rfl := hsp
                          obtain ⟨vq, hvq, hsq⟩ := hI.haveQ 4 _ 75 (.val (.agg (numsA .u8 ((n % 20) :: List.replicate 31 0)))) rfl rfl rfl (hdep ⟨4, .data⟩ (by simp) rfl)
                          obtain rfl := hsq
                          exact hI.callQ (by kernel_rfl) hls rfl rfl rfl 36 #[.tmp 72, .tmp 75] _ rfl #[.agg ar2_2, .agg (numsA .u8 ((n % 20) :: List.replicate 31 0))] (by simp [eval_of hvp, eval_of hvq]) (run_enter Tryd.func36 (by kernel_rfl) (by kernel_rfl)) (.like (IsC 20 RP [some ((eB.times (expo a)).times (expo ((n % 20) :: List.replicate 31 0)))])) rfl rfl ((multiplyR _ (HT.out.upd (HU10.out.drew.trans hI.upd)) hCr2_2 rfl (digs_one (by omega))).mono fun _ _ h => h.sq) hK'
                        · obtain rfl := Option.some.inj ho
                          obtain ⟨vp, hvp, hsp⟩ := hI.haveQ 0 _ 71 (.val (.agg A10_10)) rfl rfl rfl (hdep ⟨0, .data⟩ (by simp) rfl)
                          obtain rfl := hsp
                          obtain ⟨vq, hvq, aq, rfl, hCq⟩ := hI.haveQ 5 _ 76 (.like (IsC 20 RP [some ((eB.times (expo a)).times (expo ((n % 20) :: List.replicate 31 0)))])) rfl rfl rfl (hdep ⟨5, .data⟩ (by simp) rfl)
                          exact hI.callQ (by kernel_rfl) hls rfl rfl rfl 31 #[.tmp 71, .tmp 76] _ rfl #[.agg A10_10, .agg aq] (by simp [eval_of hvp, eval_of hvq]) (run_enter Tryd.func31 (by kernel_rfl) (by kernel_rfl)) (.val (.bool (edEq ((eB.times (expo a)).times ((n % 20).toNat)) ((eB.times (expo a)).times (expo ((n % 20) :: List.replicate 31 0)))))) rfl rfl ((equalR _ hcl10 hCq).mono fun _ _ h => ret_val h) hK'
                        · obtain rfl := Option.some.inj ho
                          obtain ⟨vp, hvp, hsp⟩ := hI.haveQ 6 _ 77 (.val (.bool (edEq ((eB.times (expo a)).times ((n % 20).toNat)) ((eB.times (expo a)).times (expo ((n % 20) :: List.replicate 31 0)))))) rfl rfl rfl (hdep ⟨6, .data⟩ (by simp) rfl)
                          obtain rfl := hsp
                          exact hI.pureQ (by kernel_rfl) hls rfl rfl rfl (.bool (edEq ((eB.times (expo a)).times ((n % 20).toNat)) ((eB.times (expo a)).times (expo ((n % 20) :: List.replicate 31 0))))) (run_moveQ (.inr rfl) (eval_of hvp) wn) (.val (.bool (edEq ((eB.times (expo a)).times ((n % 20).toNat)) ((eB.times (expo a)).times (expo ((n % 20) :: List.replicate 31 0)))))) rfl rfl rfl hK'
                        · exact hi.elim
                      · intro fuel an w12 hf hI
                        obtain ⟨vr11_0, hvr11_0, hsr11_0⟩ := hI.haveQ 0 _ 71 (.val (.agg A10_10)) rfl rfl rfl rfl
                        obtain rfl := hsr11_0
                        obtain ⟨vr11_1, hvr11_1, hsr11_1⟩ := hI.haveQ 1 _ 72 (.val (.agg ar2_2)) rfl rfl rfl rfl
                        obtain rfl := hsr11_1
                        obtain ⟨vr11_2, hvr11_2, hsr11_2⟩ := hI.haveQ 2 _ 73 (.val (.int .u8 n)) rfl rfl rfl rfl
                        obtain rfl := hsr11_2
                        obtain ⟨vr11_3, hvr11_3, hsr11_3⟩ := hI.haveQ 3 _ 74 (.val (.int .u8 (n % 20))) rfl rfl rfl rfl
                        obtain rfl := hsr11_3
                        obtain ⟨vr11_4, hvr11_4, hsr11_4⟩ := hI.haveQ 4 _ 75 (.val (.agg (numsA .u8 ((n % 20) :: List.replicate 31 0)))) rfl rfl rfl rfl
                        obtain rfl := hsr11_4
                        obtain ⟨vr11_5, hvr11_5, ar11_5, rfl, hCr11_5⟩ := hI.haveQ 5 _ 76 (.like (IsC 20 RP [some ((eB.times (expo a)).times (expo ((n % 20) :: List.replicate 31 0)))])) rfl rfl rfl rfl
                        obtain ⟨vr11_6, hvr11_6, hsr11_6⟩ := hI.haveQ 6 _ 77 (.val (.bool (edEq ((eB.times (expo a)).times ((n % 20).toNat)) ((eB.times (expo a)).times (expo ((n % 20) :: List.replicate 31 0)))))) rfl rfl rfl rfl
                        obtain rfl := hsr11_6
                        obtain ⟨vr11_7, hvr11_7, hsr11_7⟩ := hI.haveQ 7 _ 6 (.val (.bool (edEq ((eB.times (expo a)).times ((n % 20).toNat)) ((eB.times (expo a)).times (expo ((n % 20) :: List.replicate 31 0)))))) rfl rfl rfl rfl
                        obtain rfl := hsr11_7
                        have hupd := hI.upd
                        have ha := hI.act [(71, .agg A10_10), (72, .agg ar2_2), (73, .int .u8 n), (74, .int .u8 (n % 20)), (75, .agg (numsA .u8 ((n % 20) :: List.replicate 31 0))), (76, .agg ar11_5), (77, .bool (edEq ((eB.times (expo a)).times ((n % 20).toNat)) ((eB.times (expo a)).times (expo ((n % 20) :: List.replicate 31 0))))), (6, .bool (edEq ((eB.times (expo a)).times ((n % 20).toNat)) ((eB.times (expo a)).times (expo ((n % 20) :: List.replicate 31 0)))))] (by simp [hvr11_0, hvr11_1, hvr11_2, hvr11_3, hvr11_4, hvr11_5, hvr11_6, hvr11_7]) (by kernel_rfl)
                        clear hI hvr11_0 hvr11_1 hvr11_2 hvr11_3 hvr11_4 hvr11_5 hvr11_6 hvr11_7
                        subst ha
                        simp only [List.foldl_cons, List.foldl_nil, List.setIfInBounds_toArray, List.set_cons_zero, List.set_cons_succ]
                        have Bxr0y0_11 := Lib.hid (hupd.blk (show Blk w11.drew br0_0 23 (numsA .u8 a) from Bxr0y0_10.out) (fun h => h))
                        have Bxr0y1_11 := Lib.hid (hupd.blk (show Blk w11.drew br0_1 23 (numsA .u8 b) from Bxr0y1_10.out) (fun h => h))
                        have Bxr2y6_11 := Lib.hid (hupd.blk (show Blk w11.drew br2_6 41 ar2_2 from Bxr2y6_10.out) (fun h => h))
                        have Bxr2y7_11 := Lib.hid (hupd.blk (show Blk w11.drew br2_7 41 ar2_5 from Bxr2y7_10.out) (fun h => h))
                        have Bxr3y4_11 := Lib.hid (hupd.blk (show Blk w11.drew br3_4 41 ar3_3 from Bxr3y4_10.out) (fun h => h))
                        have Bxr5y1_11 := Lib.hid (hupd.blk (show Blk w11.drew br5_1 41 A10_10 from Bxr5y1_10.out) (fun h => h))
                        have HU11 := Lib.hid (HU10.out.drew.trans hupd)
                        clear hupd
                        refine wpAny_done (by kernel_rfl) ?_ _
                        refine hK16 _ _ ?_
                        clear hK16
                        refine wp_ret ?_
                        try dsimp only [Exit.then]
                        try dsimp only [Exit.inBlock]
                        exact bodyPost_ret (v := .bool (edEq ((eB.times (expo a)).times ((n % 20).toNat)) ((eB.times (expo a)).times (expo ((n % 20) :: List.replicate 31 0))))) (results_tmpQ (fn := Tryd.f11) (t := 6) rfl _ _ (.bool (edEq ((eB.times (expo a)).times ((n % 20).toNat)) ((eB.times (expo a)).times (expo ((n % 20) :: List.replicate 31 0))))) rfl) rfl ⟨rfl, HU11.out⟩
theorem pointRules_any {a b : List Int} {n : Int} (w : World) (hT : Tw w) (ha : a.length = 32) (da : Digs 256 a) (hb : b.length = 32) (db : Digs 256 b) (hn : 0 ≤ n ∧ n < 256) : Calls Tryd.prog 11 #[.agg (numsA .u8 a), .agg (numsA .u8 b), .int .u8 n] w fun e w' => e = .returned (.bool true) ∧ Upd (fun _ => False) w w' := by
  cases hq : edEq (eB.times (expo a)) (eB.times (expo b)) with
  | true =>
    have h := prulesT w hT ha da hb db hn hq
    rw [expo_one (by omega), edEq_t rfl] at h
    exact h
  | false =>
    have h := prulesF w hT ha da hb db hn hq
    rw [expo_one (by omega), edEq_t rfl] at h
    exact h
end Go.Proofs.YtdpafemcpbhlfaaDoor
