/-
  The walk of LadderAgrees.
-/
import Derived.Test.YtdpafemcpbhlfaaDoorRf5b
import Derived.Test.YtdpafemcpbhlfaaDoorAgr
namespace Go.Proofs.YtdpafemcpbhlfaaDoor
set_option maxRecDepth 100000
open Go.RowKit

set_option maxHeartbeats 4000000 in
theorem ladderAgrees_any {l m : List Int} (w : World) (hT : Tw w) (hl : l.length = 32) (hd : Digs 256 l) (hm : m.length = 32) (hn : Digs 256 m) :
    Calls Tryd.prog 4 #[.agg (numsA .u8 l), .agg (numsA .u8 m)] w fun e w' => e = .returned (.bool true) ∧ Upd (fun _ => False) w w' := by
  have HT := Lib.hid hT
  clear hT
  have HU := Lib.hid (Upd.refl (fun _ => False) w)
  go_enter Tryd.func4, Tryd.ntmps4
  refine wp_seq_k fun K0 hK0 => ?_
  refine wp_region_qS 3 #[true, true, true] [] ([.blk ptrTo 23 (fun z => z = numsA .u8 l), .blk ptrTo 23 (fun z => z = numsA .u8 m), .val (.bool false)] : List SQ) (by kernel_rfl) (by kernel_rfl) (by kernel_rfl) ?_ ?_
  · intro i o listed an wn ho hls hst hun hdep hI hpre K' hK'
    have hi : i = 0 ∨ i = 1 ∨ i = 2 ∨ False := slot_cases (l := [0, 1, 2]) rfl ho hst
    rcases hi with rfl | rfl | rfl | hi
    · obtain rfl := Option.some.inj ho
      have hvp : an.eval (.tmp 0) = .agg (numsA .u8 l) := hI.oldQ (by kernel_rfl) rfl
      exact hI.newQ (by kernel_rfl) hls (Nat.le_refl _) (newsQ_spec (l := [0, 1]) (by kernel_rfl) ⟨⟨_, _, rfl⟩, ⟨_, _, rfl⟩, trivial⟩) rfl rfl rfl 23 _ (fun z => z = numsA .u8 l) (run_boxQ rfl hvp wn) rfl rfl hK'
    · obtain rfl := Option.some.inj ho
      have hvp : an.eval (.tmp 1) = .agg (numsA .u8 m) := hI.oldQ (by kernel_rfl) rfl
      exact hI.newQ (by kernel_rfl) hls (Nat.le_refl _) (newsQ_spec (l := [0, 1]) (by kernel_rfl) ⟨⟨_, _, rfl⟩, ⟨_, _, rfl⟩, trivial⟩) rfl rfl rfl 23 _ (fun z => z = numsA .u8 m) (run_boxQ rfl hvp wn) rfl rfl hK'
    · obtain rfl := Option.some.inj ho
      exact hI.pureQ (by kernel_rfl) hls rfl rfl rfl (.bool false) (run_moveQ (.inr rfl) (show an.eval (.const (.bool false)) = .bool false from rfl) wn) (.val (.bool false)) rfl rfl rfl hK'
    · exact hi.elim
  · intro an w1 hI
    obtain ⟨vr0_0, hvr0_0, br0_0, zr0_0, rfl, hnr0_0, hbr0_0, hzr0_0⟩ := hI.haveQ 0 _ 2 (.blk ptrTo 23 (fun z => z = numsA .u8 l)) rfl rfl rfl rfl
    rw [hzr0_0] at hbr0_0
    clear hzr0_0
    obtain ⟨vr0_1, hvr0_1, br0_1, zr0_1, rfl, hnr0_1, hbr0_1, hzr0_1⟩ := hI.haveQ 1 _ 3 (.blk ptrTo 23 (fun z => z = numsA .u8 m)) rfl rfl rfl rfl
    rw [hzr0_1] at hbr0_1
    clear hzr0_1
    obtain ⟨vr0_2, hvr0_2, hsr0_2⟩ := hI.haveQ 2 _ 4 (.val (.bool false)) rfl rfl rfl rfl
    obtain rfl := hsr0_2
    have hupd := hI.upd
    have hner0_0_r0_1 := Lib.hid (show br0_0 ≠ br0_1 from fun e => hI.apart 0 1 _ _ 2 3 (by omega) rfl rfl rfl rfl rfl rfl rfl rfl (by rw [hvr0_0, hvr0_1, e]))
    have ha := hI.act [(2, ptrTo br0_0), (3, ptrTo br0_1), (4, .bool false)] (by simp [hvr0_0, hvr0_1, hvr0_2]) (by kernel_rfl)
    clear hI hvr0_0 hvr0_1 hvr0_2
    subst ha
    simp only [List.foldl_cons, List.foldl_nil, List.setIfInBounds_toArray, List.set_cons_zero, List.set_cons_succ]
    have hger0_0 := Lib.hid (Nat.le_trans HU.out.size hnr0_0)
    have hger0_1 := Lib.hid (Nat.le_trans HU.out.size hnr0_1)
    have Bxr0y0 := Lib.hid hbr0_0
    have Bxr0y1 := Lib.hid hbr0_1
    have HU0 := Lib.hid (HU.out.trans hupd)
    clear hupd
    refine wpOps_nil ?_
    refine hK0 _ _ ?_
    clear hK0
    refine wp_seq_k fun K1 hK1 => ?_
    refine wp_seq_k fun K2 hK2 => ?_
    refine wp_region_qS 2 #[true, true] [] ([.val (.bool true), .val (.bool false)] : List SQ) (by kernel_rfl) (by kernel_rfl) (by kernel_rfl) ?_ ?_
    · intro i o listed an wn ho hls hst hun hdep hI hpre K' hK'
      have hi : i = 0 ∨ i = 1 ∨ False := slot_cases (l := [0, 1]) rfl ho hst
      rcases hi with rfl | rfl | hi
      · obtain rfl := Option.some.inj ho
        exact hI.callQ (by kernel_rfl) hls rfl rfl rfl 16 #[] _ rfl #[] (by simp) (run_enter Tryd.func16 (by kernel_rfl) (by kernel_rfl)) (.val (.bool true)) rfl rfl ((agreesL _ (HT.out.upd (HU0.out.trans hI.upd))).mono fun _ _ h => ret_val h) hK'
      · obtain rfl := Option.some.inj ho
        obtain ⟨vp, hvp, hsp⟩ := hI.haveQ 0 _ 9 (.val (.bool true)) rfl rfl rfl (hdep ⟨0, .data⟩ (by simp) rfl)
        obtain rfl := hsp
        exact hI.pureQ (by kernel_rfl) hls rfl rfl rfl (.bool false) (run_not rfl (eval_of hvp) wn) (.val (.bool false)) rfl rfl rfl hK'
      · exact hi.elim
    · intro an w2 hI
      obtain ⟨vr1_0, hvr1_0, hsr1_0⟩ := hI.haveQ 0 _ 9 (.val (.bool true)) rfl rfl rfl rfl
      obtain rfl := hsr1_0
      obtain ⟨vr1_1, hvr1_1, hsr1_1⟩ := hI.haveQ 1 _ 10 (.val (.bool false)) rfl rfl rfl rfl
      obtain rfl := hsr1_1
      have hupd := hI.upd
      have ha := hI.act [(9, .bool true), (10, .bool false)] (by simp [hvr1_0, hvr1_1]) (by kernel_rfl)
      clear hI hvr1_0 hvr1_1
      subst ha
      simp only [List.foldl_cons, List.foldl_nil, List.setIfInBounds_toArray, List.set_cons_zero, List.set_cons_succ]
      have Bxr0y0_1 := Lib.hid (hupd.blk (show Blk w1 br0_0 23 (numsA .u8 l) from Bxr0y0.out) (fun h => h))
      have Bxr0y1_1 := Lib.hid (hupd.blk (show Blk w1 br0_1 23 (numsA .u8 m) from Bxr0y1.out) (fun h => h))
      have HU1 := Lib.hid (HU0.out.trans hupd)
      clear hupd
      refine wpOps_nil ?_
      refine hK2 _ _ ?_
      clear hK2
      refine wp_cond_false rfl ?_
      refine wp_skip ?_
      refine hK1 _ _ ?_
      clear hK1
      refine wp_seq_k fun K3 hK3 => ?_
      refine wp_region_qS 7 #[true, true, true, true, true, true, true, false, false] [7, 8] ([.val (.agg (numsA .u8 l)), .val (.agg (numsA .u8 m)), .val (.tuple #[.agg (numsA .u8 (keyOf (ladV (clampL l) (ofKey m)))), .int .i64 (agE (ladV (clampL l) (ofKey m)))]), .val (.tuple #[.agg (numsA .u8 (keyOf (ladV (clampL l) (ofKey m)))), .int .i64 (agE (ladV (clampL l) (ofKey m)))]), .val (.agg (numsA .u8 (keyOf (ladV (clampL l) (ofKey m))))), .val (.int .i64 (agE (ladV (clampL l) (ofKey m)))), .blk ptrTo 23 (fun z => z = numsA .u8 zeroKL), .val undef, .val undef] : List SQ) (by kernel_rfl) (by kernel_rfl) (by kernel_rfl) ?_ ?_
      · intro i o listed an wn ho hls hst hun hdep hI hpre K' hK'
        have hi : i = 0 ∨ i = 1 ∨ i = 2 ∨ i = 3 ∨ i = 4 ∨ i = 5 ∨ i = 6 ∨ False := slot_cases (l := [0, 1, 2, 3, 4, 5, 6]) rfl ho hst
        rcases hi with rfl | rfl | rfl | rfl | rfl | rfl | rfl | hi
        · obtain rfl := Option.some.inj ho
          have hvp : an.eval (.tmp 2) = ptrTo br0_0 := hI.oldQ (by kernel_rfl) rfl
          exact hI.pureQ (by kernel_rfl) hls rfl rfl rfl _ (run_loadQ rfl hvp wn (hI.upd.blk (show Blk w2 br0_0 23 (numsA .u8 l) from Bxr0y0_1.out) (fun h => h)) Tryd.underlying23 rfl sizeKey (by rw [numsA_size, hl]; omega)) (.val (.agg (numsA .u8 l))) rfl (congrArg Value.agg (extract_all _ 32 (by rw [numsA_size]; exact hl))) rfl hK'
        · obtain rfl := Option.some.inj ho
          have hvp : an.eval (.tmp 3) = ptrTo br0_1 := hI.oldQ (by kernel_rfl) rfl
          exact hI.pureQ (by kernel_rfl) hls rfl rfl rfl _ (run_loadQ rfl hvp wn (hI.upd.blk (show Blk w2 br0_1 23 (numsA .u8 m) from Bxr0y1_1.out) (fun h => h)) Tryd.underlying23 rfl sizeKey (by rw [numsA_size, hm]; omega)) (.val (.agg (numsA .u8 m))) rfl (congrArg Value.agg (extract_all _ 32 (by rw [numsA_size]; exact hm))) rfl hK'
        · obtain rfl := Option.some.inj ho
          obtain ⟨vp, hvp, hsp⟩ := hI.haveQ 0 _ 12 (.val (.agg (numsA .u8 l))) rfl rfl rfl (hdep ⟨0, .data⟩ (by simp) rfl)
          obtain rfl := hsp
          obtain ⟨vq, hvq, hsq⟩ := hI.haveQ 1 _ 13 (.val (.agg (numsA .u8 m))) rfl rfl rfl (hdep ⟨1, .data⟩ (by simp) rfl)
          obtain rfl := hsq
          exact hI.callQ (by kernel_rfl) hls rfl rfl rfl 19 #[.tmp 12, .tmp 13] _ rfl #[.agg (numsA .u8 l), .agg (numsA .u8 m)] (by simp [eval_of hvp, eval_of hvq]) (run_enter Tryd.func19 (by kernel_rfl) (by kernel_rfl)) (.val (.tuple #[.agg (numsA .u8 (keyOf (ladV (clampL l) (ofKey m)))), .int .i64 (agE (ladV (clampL l) (ofKey m)))])) rfl rfl ((agreeL _ (HT.out.upd (HU1.out.trans hI.upd)) hl hd hm hn).mono fun _ _ h => ret_val h) hK'
        · obtain rfl := Option.some.inj ho
          obtain ⟨vp, hvp, hsp⟩ := hI.haveQ 2 _ 14 (.val (.tuple #[.agg (numsA .u8 (keyOf (ladV (clampL l) (ofKey m)))), .int .i64 (agE (ladV (clampL l) (ofKey m)))])) rfl rfl rfl (hdep ⟨2, .data⟩ (by simp) rfl)
          obtain rfl := hsp
          exact hI.pureQ (by kernel_rfl) hls rfl rfl rfl (.tuple #[.agg (numsA .u8 (keyOf (ladV (clampL l) (ofKey m)))), .int .i64 (agE (ladV (clampL l) (ofKey m)))]) (run_moveQ (.inl rfl) (eval_of hvp) wn) (.val (.tuple #[.agg (numsA .u8 (keyOf (ladV (clampL l) (ofKey m)))), .int .i64 (agE (ladV (clampL l) (ofKey m)))])) rfl rfl rfl hK'
        · obtain rfl := Option.some.inj ho
          obtain ⟨vp, hvp, hsp⟩ := hI.haveQ 3 _ 11 (.val (.tuple #[.agg (numsA .u8 (keyOf (ladV (clampL l) (ofKey m)))), .int .i64 (agE (ladV (clampL l) (ofKey m)))])) rfl rfl rfl (hdep ⟨3, .data⟩ (by simp) rfl)
          obtain rfl := hsp
          exact hI.pureQ (by kernel_rfl) hls rfl rfl rfl (.agg (numsA .u8 (keyOf (ladV (clampL l) (ofKey m))))) (run_extractQ rfl (eval_of hvp) rfl wn) (.val (.agg (numsA .u8 (keyOf (ladV (clampL l) (ofKey m)))))) rfl rfl rfl hK'
        · obtain rfl := Option.some.inj ho
          obtain ⟨vp, hvp, hsp⟩ := hI.haveQ 3 _ 11 (.val (.tuple #[.agg (numsA .u8 (keyOf (ladV (clampL l) (ofKey m)))), .int .i64 (agE (ladV (clampL l) (ofKey m)))])) rfl rfl rfl (hdep ⟨3, .data⟩ (by simp) rfl)
          obtain rfl := hsp
          exact hI.pureQ (by kernel_rfl) hls rfl rfl rfl (.int .i64 (agE (ladV (clampL l) (ofKey m)))) (run_extractQ rfl (eval_of hvp) rfl wn) (.val (.int .i64 (agE (ladV (clampL l) (ofKey m))))) rfl rfl rfl hK'
        · obtain rfl := Option.some.inj ho
          exact hI.newQ (by kernel_rfl) hls (Nat.le_refl _) (newsQ_spec (l := [6]) (by kernel_rfl) ⟨⟨_, _, rfl⟩, trivial⟩) rfl rfl rfl 23 _ (fun z => z = numsA .u8 zeroKL) (run_allocQ rfl zeroK_run wn) rfl rfl hK'
        · exact hi.elim
      · intro an w3 hI
        obtain ⟨vr2_0, hvr2_0, hsr2_0⟩ := hI.haveQ 0 _ 12 (.val (.agg (numsA .u8 l))) rfl rfl rfl rfl
        obtain rfl := hsr2_0
        obtain ⟨vr2_1, hvr2_1, hsr2_1⟩ := hI.haveQ 1 _ 13 (.val (.agg (numsA .u8 m))) rfl rfl rfl rfl
        obtain rfl := hsr2_1
        obtain ⟨vr2_2, hvr2_2, hsr2_2⟩ := hI.haveQ 2 _ 14 (.val (.tuple #[.agg (numsA .u8 (keyOf (ladV (clampL l) (ofKey m)))), .int .i64 (agE (ladV (clampL l) (ofKey m)))])) rfl rfl rfl rfl
        obtain rfl := hsr2_2
        obtain ⟨vr2_3, hvr2_3, hsr2_3⟩ := hI.haveQ 3 _ 11 (.val (.tuple #[.agg (numsA .u8 (keyOf (ladV (clampL l) (ofKey m)))), .int .i64 (agE (ladV (clampL l) (ofKey m)))])) rfl rfl rfl rfl
        obtain rfl := hsr2_3
        obtain ⟨vr2_4, hvr2_4, hsr2_4⟩ := hI.haveQ 4 _ 15 (.val (.agg (numsA .u8 (keyOf (ladV (clampL l) (ofKey m)))))) rfl rfl rfl rfl
        obtain rfl := hsr2_4
        obtain ⟨vr2_5, hvr2_5, hsr2_5⟩ := hI.haveQ 5 _ 16 (.val (.int .i64 (agE (ladV (clampL l) (ofKey m))))) rfl rfl rfl rfl
        obtain rfl := hsr2_5
        obtain ⟨vr2_6, hvr2_6, br2_6, zr2_6, rfl, hnr2_6, hbr2_6, hzr2_6⟩ := hI.haveQ 6 _ 5 (.blk ptrTo 23 (fun z => z = numsA .u8 zeroKL)) rfl rfl rfl rfl
        rw [hzr2_6] at hbr2_6
        clear hzr2_6
        have hupd := hI.upd
        have ha := hI.act [(12, .agg (numsA .u8 l)), (13, .agg (numsA .u8 m)), (14, .tuple #[.agg (numsA .u8 (keyOf (ladV (clampL l) (ofKey m)))), .int .i64 (agE (ladV (clampL l) (ofKey m)))]), (11, .tuple #[.agg (numsA .u8 (keyOf (ladV (clampL l) (ofKey m)))), .int .i64 (agE (ladV (clampL l) (ofKey m)))]), (15, .agg (numsA .u8 (keyOf (ladV (clampL l) (ofKey m))))), (16, .int .i64 (agE (ladV (clampL l) (ofKey m)))), (5, ptrTo br2_6)] (by simp [hvr2_0, hvr2_1, hvr2_2, hvr2_3, hvr2_4, hvr2_5, hvr2_6]) (by kernel_rfl)
        clear hI hvr2_0 hvr2_1 hvr2_2 hvr2_3 hvr2_4 hvr2_5 hvr2_6
        subst ha
        simp only [List.foldl_cons, List.foldl_nil, List.setIfInBounds_toArray, List.set_cons_zero, List.set_cons_succ]
        have hner2_6_Bxr0y0_1 := Lib.hid (show br2_6 ≠ br0_0 from Nat.ne_of_gt (Nat.lt_of_lt_of_le Bxr0y0_1.out.lt hnr2_6))
        have hner2_6_Bxr0y1_1 := Lib.hid (show br2_6 ≠ br0_1 from Nat.ne_of_gt (Nat.lt_of_lt_of_le Bxr0y1_1.out.lt hnr2_6))
        have hger2_6 := Lib.hid (Nat.le_trans HU1.out.size hnr2_6)
        have Bxr0y0_2 := Lib.hid (hupd.blk (show Blk w2 br0_0 23 (numsA .u8 l) from Bxr0y0_1.out) (fun h => h))
        have Bxr0y1_2 := Lib.hid (hupd.blk (show Blk w2 br0_1 23 (numsA .u8 m) from Bxr0y1_1.out) (fun h => h))
        have Bxr2y6 := Lib.hid hbr2_6
        have HU2 := Lib.hid (HU1.out.trans hupd)
        clear hupd
        refine wpOps_storeQ 7 rfl rfl rfl 23 (.tmp 5) (.tmp 15) rfl br2_6 0 32 rfl (numsA .u8 (keyOf (ladV (clampL l) (ofKey m)))) rfl 23 (numsA .u8 zeroKL) Bxr2y6.out sizeKey (by rw [numsA_size]; exact keyOf_length _) (by rw [(show (numsA _ _).size = 32 by rw [numsA_size]; exact zeroKL_length)]; exact Nat.le_of_ble_eq_true rfl) (numsA_one _ _) ?_
        intro ws2_0 hs2_0 hus2_0
        rw [splice_all _ _ 32 (show (numsA _ _).size = 32 by rw [numsA_size]; exact zeroKL_length) (by rw [numsA_size]; exact keyOf_length _)] at hs2_0
        have Bxr0y0_s2_0 := Lib.hid (hus2_0.blk Bxr0y0_2.out (fun e => hner2_6_Bxr0y0_1.out e.symm))
        have Bxr0y1_s2_0 := Lib.hid (hus2_0.blk Bxr0y1_2.out (fun e => hner2_6_Bxr0y1_1.out e.symm))
        have Bxr2y6_s2_0 := Lib.hid hs2_0
        have HU2_0 := Lib.hid (HU2.out.step hus2_0 (fun i hi h => absurd hi (Nat.not_lt.2 (h.symm ▸ hger2_6.out))))
        clear hs2_0 hus2_0
        refine wpOps_pureQ 8 rfl rfl 6 rfl (.int .i64 (agE (ladV (clampL l) (ofKey m)))) (run_moveQ (x := .tmp 16) (v := .int .i64 (agE (ladV (clampL l) (ofKey m)))) (.inr rfl) rfl _) ?_
        simp only [List.setIfInBounds_toArray, List.set_cons_zero, List.set_cons_succ]
        refine wpOps_nil ?_
        refine hK3 _ _ ?_
        clear hK3
        refine wp_seq_k fun K4 hK4 => ?_
        refine wp_region_qS 7 #[true, true, true, true, true, true, true, false, false] [7, 8] ([.val (.agg (numsA .u8 l)), .val (.agg (numsA .u8 m)), .val (.tuple #[.agg (numsA .u8 (keyOf (ladV (clampL l) (ofKey m)))), .int .i64 (agE (ladV (clampL l) (ofKey m)))]), .val (.tuple #[.agg (numsA .u8 (keyOf (ladV (clampL l) (ofKey m)))), .int .i64 (agE (ladV (clampL l) (ofKey m)))]), .val (.agg (numsA .u8 (keyOf (ladV (clampL l) (ofKey m))))), .val (.int .i64 (agE (ladV (clampL l) (ofKey m)))), .blk ptrTo 23 (fun z => z = numsA .u8 zeroKL), .val undef, .val undef] : List SQ) (by kernel_rfl) (by kernel_rfl) (by kernel_rfl) ?_ ?_
        · intro i o listed an wn ho hls hst hun hdep hI hpre K' hK'
          have hi : i = 0 ∨ i = 1 ∨ i = 2 ∨ i = 3 ∨ i = 4 ∨ i = 5 ∨ i = 6 ∨ False := slot_cases (l := [0, 1, 2, 3, 4, 5, 6]) rfl ho hst
          rcases hi with rfl | rfl | rfl | rfl | rfl | rfl | rfl | hi
          · obtain rfl := Option.some.inj ho
            have hvp : an.eval (.tmp 2) = ptrTo br0_0 := hI.oldQ (by kernel_rfl) rfl
            exact hI.pureQ (by kernel_rfl) hls rfl rfl rfl _ (run_loadQ rfl hvp wn (hI.upd.blk (show Blk ws2_0 br0_0 23 (numsA .u8 l) from Bxr0y0_s2_0.out) (fun h => h)) Tryd.underlying23 rfl sizeKey (by rw [numsA_size, hl]; omega)) (.val (.agg (numsA .u8 l))) rfl (congrArg Value.agg (extract_all _ 32 (by rw [numsA_size]; exact hl))) rfl hK'
          · obtain rfl := Option.some.inj ho
            have hvp : an.eval (.tmp 3) = ptrTo br0_1 := hI.oldQ (by kernel_rfl) rfl
            exact hI.pureQ (by kernel_rfl) hls rfl rfl rfl _ (run_loadQ rfl hvp wn (hI.upd.blk (show Blk ws2_0 br0_1 23 (numsA .u8 m) from Bxr0y1_s2_0.out) (fun h => h)) Tryd.underlying23 rfl sizeKey (by rw [numsA_size, hm]; omega)) (.val (.agg (numsA .u8 m))) rfl (congrArg Value.agg (extract_all _ 32 (by rw [numsA_size]; exact hm))) rfl hK'
          · obtain rfl := Option.some.inj ho
            obtain ⟨vp, hvp, hsp⟩ := hI.haveQ 0 _ 18 (.val (.agg (numsA .u8 l))) rfl rfl rfl (hdep ⟨0, .data⟩ (by simp) rfl)
            obtain rfl := hsp
            obtain ⟨vq, hvq, hsq⟩ := hI.haveQ 1 _ 19 (.val (.agg (numsA .u8 m))) rfl rfl rfl (hdep ⟨1, .data⟩ (by simp) rfl)
            obtain rfl := hsq
            exact hI.callQ (by kernel_rfl) hls rfl rfl rfl 20 #[.tmp 18, .tmp 19] _ rfl #[.agg (numsA .u8 l), .agg (numsA .u8 m)] (by simp [eval_of hvp, eval_of hvq]) (run_enter Tryd.func20 (by kernel_rfl) (by kernel_rfl)) (.val (.tuple #[.agg (numsA .u8 (keyOf (ladV (clampL l) (ofKey m)))), .int .i64 (agE (ladV (clampL l) (ofKey m)))])) rfl rfl ((ragreeL _ hl hd hm hn).mono fun _ _ h => ret_val h) hK'
          · obtain rfl := Option.some.inj ho
            obtain ⟨vp, hvp, hsp⟩ := hI.haveQ 2 _ 20 (.val (.tuple #[.agg (numsA .u8 (keyOf (ladV (clampL l) (ofKey m)))), .int .i64 (agE (ladV (clampL l) (ofKey m)))])) rfl rfl rfl (hdep ⟨2, .data⟩ (by simp) rfl)
            obtain rfl := hsp
            exact hI.pureQ (by kernel_rfl) hls rfl rfl rfl (.tuple #[.agg (numsA .u8 (keyOf (ladV (clampL l) (ofKey m)))), .int .i64 (agE (ladV (clampL l) (ofKey m)))]) (run_moveQ (.inl rfl) (eval_of hvp) wn) (.val (.tuple #[.agg (numsA .u8 (keyOf (ladV (clampL l) (ofKey m)))), .int .i64 (agE (ladV (clampL l) (ofKey m)))])) rfl rfl rfl hK'
          · obtain rfl := Option.some.inj ho
            obtain ⟨vp, hvp, hsp⟩ := hI.haveQ 3 _ 17 (.val (.tuple #[.agg (numsA .u8 (keyOf (ladV (clampL l) (ofKey m)))), .int .i64 (agE (ladV (clampL l) (ofKey m)))])) rfl rfl rfl (hdep ⟨3, .data⟩ (by simp) rfl)
            obtain rfl := hsp
            exact hI.pureQ (by kernel_rfl) hls rfl rfl rfl (.agg (numsA .u8 (keyOf (ladV (clampL l) (ofKey m))))) (run_extractQ rfl (eval_of hvp) rfl wn) (.val (.agg (numsA .u8 (keyOf (ladV (clampL l) (ofKey m)))))) rfl rfl rfl hK'
          · obtain rfl := Option.some.inj ho
            obtain ⟨vp, hvp, hsp⟩ := hI.haveQ 3 _ 17 (.val (.tuple #[.agg (numsA .u8 (keyOf (ladV (clampL l) (ofKey m)))), .int .i64 (agE (ladV (clampL l) (ofKey m)))])) rfl rfl rfl (hdep ⟨3, .data⟩ (by simp) rfl)
            obtain rfl := hsp
            exact hI.pureQ (by kernel_rfl) hls rfl rfl rfl (.int .i64 (agE (ladV (clampL l) (ofKey m)))) (run_extractQ rfl (eval_of hvp) rfl wn) (.val (.int .i64 (agE (ladV (clampL l) (ofKey m))))) rfl rfl rfl hK'
          · obtain rfl := Option.some.inj ho
            exact hI.newQ (by kernel_rfl) hls (Nat.le_refl _) (newsQ_spec (l := [6]) (by kernel_rfl) ⟨⟨_, _, rfl⟩, trivial⟩) rfl rfl rfl 23 _ (fun z => z = numsA .u8 zeroKL) (run_allocQ rfl zeroK_run wn) rfl rfl hK'
          · exact hi.elim
        · intro an w4 hI
          obtain ⟨vr3_0, hvr3_0, hsr3_0⟩ := hI.haveQ 0 _ 18 (.val (.agg (numsA .u8 l))) rfl rfl rfl rfl
          obtain rfl := hsr3_0
          obtain ⟨vr3_1, hvr3_1, hsr3_1⟩ := hI.haveQ 1 _ 19 (.val (.agg (numsA .u8 m))) rfl rfl rfl rfl
          obtain rfl := hsr3_1
          obtain ⟨vr3_2, hvr3_2, hsr3_2⟩ := hI.haveQ 2 _ 20 (.val (.tuple #[.agg (numsA .u8 (keyOf (ladV (clampL l) (ofKey m)))), .int .i64 (agE (ladV (clampL l) (ofKey m)))])) rfl rfl rfl rfl
          obtain rfl := hsr3_2
          obtain ⟨vr3_3, hvr3_3, hsr3_3⟩ := hI.haveQ 3 _ 17 (.val (.tuple #[.agg (numsA .u8 (keyOf (ladV (clampL l) (ofKey m)))), .int .i64 (agE (ladV (clampL l) (ofKey m)))])) rfl rfl rfl rfl
          obtain rfl := hsr3_3
          obtain ⟨vr3_4, hvr3_4, hsr3_4⟩ := hI.haveQ 4 _ 21 (.val (.agg (numsA .u8 (keyOf (ladV (clampL l) (ofKey m)))))) rfl rfl rfl rfl
          obtain rfl := hsr3_4
          obtain ⟨vr3_5, hvr3_5, hsr3_5⟩ := hI.haveQ 5 _ 22 (.val (.int .i64 (agE (ladV (clampL l) (ofKey m))))) rfl rfl rfl rfl
          obtain rfl := hsr3_5
          obtain ⟨vr3_6, hvr3_6, br3_6, zr3_6, rfl, hnr3_6, hbr3_6, hzr3_6⟩ := hI.haveQ 6 _ 7 (.blk ptrTo 23 (fun z => z = numsA .u8 zeroKL)) rfl rfl rfl rfl
          rw [hzr3_6] at hbr3_6
          clear hzr3_6
          have hupd := hI.upd
          have ha := hI.act [(18, .agg (numsA .u8 l)), (19, .agg (numsA .u8 m)), (20, .tuple #[.agg (numsA .u8 (keyOf (ladV (clampL l) (ofKey m)))), .int .i64 (agE (ladV (clampL l) (ofKey m)))]), (17, .tuple #[.agg (numsA .u8 (keyOf (ladV (clampL l) (ofKey m)))), .int .i64 (agE (ladV (clampL l) (ofKey m)))]), (21, .agg (numsA .u8 (keyOf (ladV (clampL l) (ofKey m))))), (22, .int .i64 (agE (ladV (clampL l) (ofKey m)))), (7, ptrTo br3_6)] (by simp [hvr3_0, hvr3_1, hvr3_2, hvr3_3, hvr3_4, hvr3_5, hvr3_6]) (by kernel_rfl)
          clear hI hvr3_0 hvr3_1 hvr3_2 hvr3_3 hvr3_4 hvr3_5 hvr3_6
          subst ha
          simp only [List.foldl_cons, List.foldl_nil, List.setIfInBounds_toArray, List.set_cons_zero, List.set_cons_succ]
          have hner3_6_Bxr0y0_s2_0 := Lib.hid (show br3_6 ≠ br0_0 from Nat.ne_of_gt (Nat.lt_of_lt_of_le Bxr0y0_s2_0.out.lt hnr3_6))
          have hner3_6_Bxr0y1_s2_0 := Lib.hid (show br3_6 ≠ br0_1 from Nat.ne_of_gt (Nat.lt_of_lt_of_le Bxr0y1_s2_0.out.lt hnr3_6))
          have hner3_6_Bxr2y6_s2_0 := Lib.hid (show br3_6 ≠ br2_6 from Nat.ne_of_gt (Nat.lt_of_lt_of_le Bxr2y6_s2_0.out.lt hnr3_6))
          have hger3_6 := Lib.hid (Nat.le_trans HU2_0.out.size hnr3_6)
          have Bxr0y0_3 := Lib.hid (hupd.blk (show Blk ws2_0 br0_0 23 (numsA .u8 l) from Bxr0y0_s2_0.out) (fun h => h))
          have Bxr0y1_3 := Lib.hid (hupd.blk (show Blk ws2_0 br0_1 23 (numsA .u8 m) from Bxr0y1_s2_0.out) (fun h => h))
          have Bxr2y6_3 := Lib.hid (hupd.blk (show Blk ws2_0 br2_6 23 (numsA .u8 (keyOf (ladV (clampL l) (ofKey m)))) from Bxr2y6_s2_0.out) (fun h => h))
          have Bxr3y6 := Lib.hid hbr3_6
          have HU3 := Lib.hid (HU2_0.out.trans hupd)
          clear hupd
          refine wpOps_storeQ 7 rfl rfl rfl 23 (.tmp 7) (.tmp 21) rfl br3_6 0 32 rfl (numsA .u8 (keyOf (ladV (clampL l) (ofKey m)))) rfl 23 (numsA .u8 zeroKL) Bxr3y6.out sizeKey (by rw [numsA_size]; exact keyOf_length _) (by rw [(show (numsA _ _).size = 32 by rw [numsA_size]; exact zeroKL_length)]; exact Nat.le_of_ble_eq_true rfl) (numsA_one _ _) ?_
          intro ws3_0 hs3_0 hus3_0
          rw [splice_all _ _ 32 (show (numsA _ _).size = 32 by rw [numsA_size]; exact zeroKL_length) (by rw [numsA_size]; exact keyOf_length _)] at hs3_0
          have Bxr0y0_s3_0 := Lib.hid (hus3_0.blk Bxr0y0_3.out (fun e => hner3_6_Bxr0y0_s2_0.out e.symm))
          have Bxr0y1_s3_0 := Lib.hid (hus3_0.blk Bxr0y1_3.out (fun e => hner3_6_Bxr0y1_s2_0.out e.symm))
          have Bxr2y6_s3_0 := Lib.hid (hus3_0.blk Bxr2y6_3.out (fun e => hner3_6_Bxr2y6_s2_0.out e.symm))
          have Bxr3y6_s3_0 := Lib.hid hs3_0
          have HU3_0 := Lib.hid (HU3.out.step hus3_0 (fun i hi h => absurd hi (Nat.not_lt.2 (h.symm ▸ hger3_6.out))))
          clear hs3_0 hus3_0
          refine wpOps_pureQ 8 rfl rfl 8 rfl (.int .i64 (agE (ladV (clampL l) (ofKey m)))) (run_moveQ (x := .tmp 22) (v := .int .i64 (agE (ladV (clampL l) (ofKey m)))) (.inr rfl) rfl _) ?_
          simp only [List.setIfInBounds_toArray, List.set_cons_zero, List.set_cons_succ]
          refine wpOps_nil ?_
          refine hK4 _ _ ?_
          clear hK4
          refine wp_seq_k fun K5 hK5 => ?_
          refine wp_region_q #[true, true, true, true, true, true, true, true, true, true, true, true, true, true, true, true] ([.val (.agg (numsA .u8 (keyOf (ladV (clampL l) (ofKey m))))), .val (.agg (numsA .u8 (keyOf (ladV (clampL l) (ofKey m))))), .val (.bool true), .val (.bool true), .val (.int .i64 (agE (ladV (clampL l) (ofKey m)))), .val (.int .i64 (agE (ladV (clampL l) (ofKey m)))), .val (.bool true), .val (.bool true), .val (.bool true), .val (.agg (numsA .u8 l)), .val (.agg (numsA .u8 (keyOf (ladV (clampL l) (ofKey keyG0))))), .val (.agg (numsA .u8 l)), .val (.agg (numsA .u8 (keyOf (ladV (clampL l) (ofKey keyY0))))), .val (.bool true), .val (.bool true), .val (.bool true)] : List SQ) (by kernel_rfl) (by kernel_rfl) (by kernel_rfl) ?_ ?_
          · intro i o listed an wn ho hls hst hun hdep hI K' hK'
            have hi : i = 0 ∨ i = 1 ∨ i = 2 ∨ i = 3 ∨ i = 4 ∨ i = 5 ∨ i = 6 ∨ i = 7 ∨ i = 8 ∨ i = 9 ∨ i = 10 ∨ i = 11 ∨ i = 12 ∨ i = 13 ∨ i = 14 ∨ i = 15 ∨ False := slot_cases (l := [0, 1, 2, 3, 4, 5, 6, 7, 8, 9, 10, 11, 12, 13, 14, 15]) rfl ho hst
            rcases hi with rfl | rfl | rfl | rfl | rfl | rfl | rfl | rfl | rfl | rfl | rfl | rfl | rfl | rfl | rfl | rfl | hi
            · obtain rfl := Option.some.inj ho
              have hvp : an.eval (.tmp 5) = ptrTo br2_6 := hI.oldQ (by kernel_rfl) rfl
              exact hI.pureQ (by kernel_rfl) hls rfl rfl rfl _ (run_loadQ rfl hvp wn (hI.upd.blk (show Blk ws3_0.drew br2_6 23 (numsA .u8 (keyOf (ladV (clampL l) (ofKey m)))) from Bxr2y6_s3_0.out) (fun h => h)) Tryd.underlying23 rfl sizeKey (by rw [numsA_size, keyOf_length _]; omega)) (.val (.agg (numsA .u8 (keyOf (ladV (clampL l) (ofKey m)))))) rfl (congrArg Value.agg (extract_all _ 32 (by rw [numsA_size]; exact keyOf_length _))) rfl hK'
            · obtain rfl := Option.some.inj ho
              have hvp : an.eval (.tmp 7) = ptrTo br3_6 := hI.oldQ (by kernel_rfl) rfl
              exact hI.pureQ (by kernel_rfl) hls rfl rfl rfl _ (run_loadQ rfl hvp wn (hI.upd.blk (show Blk ws3_0.drew br3_6 23 (numsA .u8 (keyOf (ladV (clampL l) (ofKey m)))) from Bxr3y6_s3_0.out) (fun h => h)) Tryd.underlying23 rfl sizeKey (by rw [numsA_size, keyOf_length _]; omega)) (.val (.agg (numsA .u8 (keyOf (ladV (clampL l) (ofKey m)))))) rfl (congrArg Value.agg (extract_all _ 32 (by rw [numsA_size]; exact keyOf_length _))) rfl hK'
            · obtain rfl := Option.some.inj ho
              obtain ⟨vp, hvp, hsp⟩ := hI.haveQ 0 _ 23 (.val (.agg (numsA .u8 (keyOf (ladV (clampL l) (ofKey m)))))) rfl rfl rfl (hdep ⟨0, .data⟩ (by simp) rfl)
              obtain rfl := hsp
              obtain ⟨vq, hvq, hsq⟩ := hI.haveQ 1 _ 24 (.val (.agg (numsA .u8 (keyOf (ladV (clampL l) (ofKey m)))))) rfl rfl rfl (hdep ⟨1, .data⟩ (by simp) rfl)
              obtain rfl := hsq
              exact hI.pureQ (by kernel_rfl) hls rfl rfl rfl (.bool true) (run_eqlK (b := true) rfl (eval_of hvp) (eval_of hvq) (keyOf_length _) (keyOf_length _) (decide_eq_true rfl) wn) (.val (.bool true)) rfl rfl rfl hK'
            · obtain rfl := Option.some.inj ho
              obtain ⟨vp, hvp, hsp⟩ := hI.haveQ 2 _ 25 (.val (.bool true)) rfl rfl rfl (hdep ⟨2, .data⟩ (by simp) rfl)
              obtain rfl := hsp
              exact hI.pureQ (by kernel_rfl) hls rfl rfl rfl (.bool true) (run_moveQ (.inl rfl) (eval_of hvp) wn) (.val (.bool true)) rfl rfl rfl hK'
            · obtain rfl := Option.some.inj ho
              obtain ⟨vg, hvg, hsg⟩ := hI.haveQ 3 _ 26 (.val (.bool true)) rfl rfl rfl (hdep ⟨3, .guard⟩ (by simp) rfl)
              obtain rfl := hsg
              have hvp : an.eval (.tmp 6) = .int .i64 (agE (ladV (clampL l) (ofKey m))) := hI.oldQ (by kernel_rfl) rfl
              exact hI.pureQ (by kernel_rfl) hls rfl (wanted_of rfl rfl rfl hvg) rfl (.int .i64 (agE (ladV (clampL l) (ofKey m)))) (run_moveQ (.inl rfl) hvp wn) (.val (.int .i64 (agE (ladV (clampL l) (ofKey m))))) rfl rfl rfl hK'
            · obtain rfl := Option.some.inj ho
              obtain ⟨vg, hvg, hsg⟩ := hI.haveQ 3 _ 26 (.val (.bool true)) rfl rfl rfl (hdep ⟨3, .guard⟩ (by simp) rfl)
              obtain rfl := hsg
              have hvp : an.eval (.tmp 8) = .int .i64 (agE (ladV (clampL l) (ofKey m))) := hI.oldQ (by kernel_rfl) rfl
              exact hI.pureQ (by kernel_rfl) hls rfl (wanted_of rfl rfl rfl hvg) rfl (.int .i64 (agE (ladV (clampL l) (ofKey m)))) (run_moveQ (.inl rfl) hvp wn) (.val (.int .i64 (agE (ladV (clampL l) (ofKey m))))) rfl rfl rfl hK'
            · obtain rfl := Option.some.inj ho
              obtain ⟨vg, hvg, hsg⟩ := hI.haveQ 3 _ 26 (.val (.bool true)) rfl rfl rfl (hdep ⟨3, .guard⟩ (by simp) rfl)
              obtain rfl := hsg
              obtain ⟨vp, hvp, hsp⟩ := hI.haveQ 4 _ 27 (.val (.int .i64 (agE (ladV (clampL l) (ofKey m))))) rfl rfl rfl (hdep ⟨4, .data⟩ (by simp) rfl)
              obtain rfl := hsp
              obtain ⟨vq, hvq, hsq⟩ := hI.haveQ 5 _ 28 (.val (.int .i64 (agE (ladV (clampL l) (ofKey m))))) rfl rfl rfl (hdep ⟨5, .data⟩ (by simp) rfl)
              obtain rfl := hsq
              exact hI.pureQ (by kernel_rfl) hls rfl (wanted_of rfl rfl rfl hvg) rfl (.bool true) (run_eql rfl (eval_of hvp) (eval_of hvq) (decide_eq_true rfl) wn) (.val (.bool true)) rfl rfl rfl hK'
            · obtain rfl := Option.some.inj ho
              obtain ⟨vp, hvp, hsp⟩ := hI.haveQ 3 _ 26 (.val (.bool true)) rfl rfl rfl (hdep ⟨3, .data⟩ (by simp) rfl)
              obtain rfl := hsp
              obtain ⟨vq, hvq, hsq⟩ := hI.haveQ 6 _ 29 (.val (.bool true)) rfl rfl rfl (hdep ⟨6, .data⟩ (by simp) rfl)
              obtain rfl := hsq
              exact hI.pureQ (by kernel_rfl) hls rfl rfl rfl (.bool true) (run_pickT rfl (eval_of hvp) (eval_of hvq) wn) (.val (.bool true)) rfl rfl rfl hK'
            · obtain rfl := Option.some.inj ho
              obtain ⟨vp, hvp, hsp⟩ := hI.haveQ 7 _ 30 (.val (.bool true)) rfl rfl rfl (hdep ⟨7, .data⟩ (by simp) rfl)
              obtain rfl := hsp
              exact hI.pureQ (by kernel_rfl) hls rfl rfl rfl (.bool true) (run_moveQ (.inl rfl) (eval_of hvp) wn) (.val (.bool true)) rfl rfl rfl hK'
            · obtain rfl := Option.some.inj ho
              obtain ⟨vg, hvg, hsg⟩ := hI.haveQ 8 _ 31 (.val (.bool true)) rfl rfl rfl (hdep ⟨8, .guard⟩ (by simp) rfl)
              obtain rfl := hsg
              have hvp : an.eval (.tmp 2) = ptrTo br0_0 := hI.oldQ (by kernel_rfl) rfl
              exact hI.pureQ (by kernel_rfl) hls rfl (wanted_of rfl rfl rfl hvg) rfl _ (run_loadQ rfl hvp wn (hI.upd.blk (show Blk ws3_0.drew br0_0 23 (numsA .u8 l) from Bxr0y0_s3_0.out) (fun h => h)) Tryd.underlying23 rfl sizeKey (by rw [numsA_size, hl]; omega)) (.val (.agg (numsA .u8 l))) rfl (congrArg Value.agg (extract_all _ 32 (by rw [numsA_size]; exact hl))) rfl hK'
            · obtain rfl := Option.some.inj ho
              obtain ⟨vg, hvg, hsg⟩ := hI.haveQ 8 _ 31 (.val (.bool true)) rfl rfl rfl (hdep ⟨8, .guard⟩ (by simp) rfl)
              obtain rfl := hsg
              obtain ⟨vp, hvp, hsp⟩ := hI.haveQ 9 _ 32 (.val (.agg (numsA .u8 l))) rfl rfl rfl (hdep ⟨9, .data⟩ (by simp) rfl)
              obtain rfl := hsp
              exact hI.callQ (by kernel_rfl) hls rfl (wanted_of rfl rfl rfl hvg) rfl 21 #[.tmp 32] _ rfl #[.agg (numsA .u8 l)] (by simp [eval_of hvp]) (run_enter Tryd.func21 (by kernel_rfl) (by kernel_rfl)) (.val (.agg (numsA .u8 (keyOf (ladV (clampL l) (ofKey keyG0)))))) rfl rfl ((publicL _ (HT.out.upd (HU3_0.out.drew.trans hI.upd)) hl hd).mono fun _ _ h => ret_val h) hK'
            · obtain rfl := Option.some.inj ho
              obtain ⟨vg, hvg, hsg⟩ := hI.haveQ 8 _ 31 (.val (.bool true)) rfl rfl rfl (hdep ⟨8, .guard⟩ (by simp) rfl)
              obtain rfl := hsg
              have hvp : an.eval (.tmp 2) = ptrTo br0_0 := hI.oldQ (by kernel_rfl) rfl
              exact hI.pureQ (by kernel_rfl) hls rfl (wanted_of rfl rfl rfl hvg) rfl _ (run_loadQ rfl hvp wn (hI.upd.blk (show Blk ws3_0.drew br0_0 23 (numsA .u8 l) from Bxr0y0_s3_0.out) (fun h => h)) Tryd.underlying23 rfl sizeKey (by rw [numsA_size, hl]; omega)) (.val (.agg (numsA .u8 l))) rfl (congrArg Value.agg (extract_all _ 32 (by rw [numsA_size]; exact hl))) rfl hK'
            · obtain rfl := Option.some.inj ho
              obtain ⟨vg, hvg, hsg⟩ := hI.haveQ 8 _ 31 (.val (.bool true)) rfl rfl rfl (hdep ⟨8, .guard⟩ (by simp) rfl)
              obtain rfl := hsg
              obtain ⟨vp, hvp, hsp⟩ := hI.haveQ 11 _ 34 (.val (.agg (numsA .u8 l))) rfl rfl rfl (hdep ⟨11, .data⟩ (by simp) rfl)
              obtain rfl := hsp
              exact hI.callQ (by kernel_rfl) hls rfl (wanted_of rfl rfl rfl hvg) rfl 22 #[.tmp 34] _ rfl #[.agg (numsA .u8 l)] (by simp [eval_of hvp]) (run_enter Tryd.func22 (by kernel_rfl) (by kernel_rfl)) (.val (.agg (numsA .u8 (keyOf (ladV (clampL l) (ofKey keyY0)))))) rfl rfl ((rpublicL _ hl hd).mono fun _ _ h => ret_val h) hK'
            · obtain rfl := Option.some.inj ho
              obtain ⟨vg, hvg, hsg⟩ := hI.haveQ 8 _ 31 (.val (.bool true)) rfl rfl rfl (hdep ⟨8, .guard⟩ (by simp) rfl)
              obtain rfl := hsg
              obtain ⟨vp, hvp, hsp⟩ := hI.haveQ 10 _ 33 (.val (.agg (numsA .u8 (keyOf (ladV (clampL l) (ofKey keyG0)))))) rfl rfl rfl (hdep ⟨10, .data⟩ (by simp) rfl)
              obtain rfl := hsp
              obtain ⟨vq, hvq, hsq⟩ := hI.haveQ 12 _ 35 (.val (.agg (numsA .u8 (keyOf (ladV (clampL l) (ofKey keyY0)))))) rfl rfl rfl (hdep ⟨12, .data⟩ (by simp) rfl)
              obtain rfl := hsq
              exact hI.pureQ (by kernel_rfl) hls rfl (wanted_of rfl rfl rfl hvg) rfl (.bool true) (run_eqlK (b := true) rfl (eval_of hvp) (eval_of hvq) (keyOf_length _) (keyOf_length _) (decide_eq_true (by rw [keyG0_eq]; rfl)) wn) (.val (.bool true)) rfl rfl rfl hK'
            · obtain rfl := Option.some.inj ho
              obtain ⟨vp, hvp, hsp⟩ := hI.haveQ 8 _ 31 (.val (.bool true)) rfl rfl rfl (hdep ⟨8, .data⟩ (by simp) rfl)
              obtain rfl := hsp
              obtain ⟨vq, hvq, hsq⟩ := hI.haveQ 13 _ 36 (.val (.bool true)) rfl rfl rfl (hdep ⟨13, .data⟩ (by simp) rfl)
              obtain rfl := hsq
              exact hI.pureQ (by kernel_rfl) hls rfl rfl rfl (.bool true) (run_pickT rfl (eval_of hvp) (eval_of hvq) wn) (.val (.bool true)) rfl rfl rfl hK'
            · obtain rfl := Option.some.inj ho
              obtain ⟨vp, hvp, hsp⟩ := hI.haveQ 14 _ 37 (.val (.bool true)) rfl rfl rfl (hdep ⟨14, .data⟩ (by simp) rfl)
              obtain rfl := hsp
              exact hI.pureQ (by kernel_rfl) hls rfl rfl rfl (.bool true) (run_moveQ (.inr rfl) (eval_of hvp) wn) (.val (.bool true)) rfl rfl rfl hK'
            · exact hi.elim
          · intro fuel an w5 hf hI
            obtain ⟨vr4_0, hvr4_0, hsr4_0⟩ := hI.haveQ 0 _ 23 (.val (.agg (numsA .u8 (keyOf (ladV (clampL l) (ofKey m)))))) rfl rfl rfl rfl
            obtain rfl := hsr4_0
            obtain ⟨vr4_1, hvr4_1, hsr4_1⟩ := hI.haveQ 1 _ 24 (.val (.agg (numsA .u8 (keyOf (ladV (clampL l) (ofKey m)))))) rfl rfl rfl rfl
            obtain rfl := hsr4_1
            obtain ⟨vr4_2, hvr4_2, hsr4_2⟩ := hI.haveQ 2 _ 25 (.val (.bool true)) rfl rfl rfl rfl
            obtain rfl := hsr4_2
            obtain ⟨vr4_3, hvr4_3, hsr4_3⟩ := hI.haveQ 3 _ 26 (.val (.bool true)) rfl rfl rfl rfl
            obtain rfl := hsr4_3
            obtain ⟨vr4_4, hvr4_4, hsr4_4⟩ := hI.haveQ 4 _ 27 (.val (.int .i64 (agE (ladV (clampL l) (ofKey m))))) rfl rfl rfl rfl
            obtain rfl := hsr4_4
            obtain ⟨vr4_5, hvr4_5, hsr4_5⟩ := hI.haveQ 5 _ 28 (.val (.int .i64 (agE (ladV (clampL l) (ofKey m))))) rfl rfl rfl rfl
            obtain rfl := hsr4_5
            obtain ⟨vr4_6, hvr4_6, hsr4_6⟩ := hI.haveQ 6 _ 29 (.val (.bool true)) rfl rfl rfl rfl
            obtain rfl := hsr4_6
            obtain ⟨vr4_7, hvr4_7, hsr4_7⟩ := hI.haveQ 7 _ 30 (.val (.bool true)) rfl rfl rfl rfl
            obtain rfl := hsr4_7
            obtain ⟨vr4_8, hvr4_8, hsr4_8⟩ := hI.haveQ 8 _ 31 (.val (.bool true)) rfl rfl rfl rfl
            obtain rfl := hsr4_8
            obtain ⟨vr4_9, hvr4_9, hsr4_9⟩ := hI.haveQ 9 _ 32 (.val (.agg (numsA .u8 l))) rfl rfl rfl rfl
            obtain rfl := hsr4_9
            obtain ⟨vr4_10, hvr4_10, hsr4_10⟩ := hI.haveQ 10 _ 33 (.val (.agg (numsA .u8 (keyOf (ladV (clampL l) (ofKey keyG0)))))) rfl rfl rfl rfl
            obtain rfl := hsr4_10
            obtain ⟨vr4_11, hvr4_11, hsr4_11⟩ := hI.haveQ 11 _ 34 (.val (.agg (numsA .u8 l))) rfl rfl rfl rfl
            obtain rfl := hsr4_11
            obtain ⟨vr4_12, hvr4_12, hsr4_12⟩ := hI.haveQ 12 _ 35 (.val (.agg (numsA .u8 (keyOf (ladV (clampL l) (ofKey keyY0)))))) rfl rfl rfl rfl
            obtain rfl := hsr4_12
            obtain ⟨vr4_13, hvr4_13, hsr4_13⟩ := hI.haveQ 13 _ 36 (.val (.bool true)) rfl rfl rfl rfl
            obtain rfl := hsr4_13
            obtain ⟨vr4_14, hvr4_14, hsr4_14⟩ := hI.haveQ 14 _ 37 (.val (.bool true)) rfl rfl rfl rfl
            obtain rfl := hsr4_14
            obtain ⟨vr4_15, hvr4_15, hsr4_15⟩ := hI.haveQ 15 _ 4 (.val (.bool true)) rfl rfl rfl rfl
            obtain rfl := hsr4_15
            have hupd := hI.upd
            have ha := hI.act [(23, .agg (numsA .u8 (keyOf (ladV (clampL l) (ofKey m))))), (24, .agg (numsA .u8 (keyOf (ladV (clampL l) (ofKey m))))), (25, .bool true), (26, .bool true), (27, .int .i64 (agE (ladV (clampL l) (ofKey m)))), (28, .int .i64 (agE (ladV (clampL l) (ofKey m)))), (29, .bool true), (30, .bool true), (31, .bool true), (32, .agg (numsA .u8 l)), (33, .agg (numsA .u8 (keyOf (ladV (clampL l) (ofKey keyG0))))), (34, .agg (numsA .u8 l)), (35, .agg (numsA .u8 (keyOf (ladV (clampL l) (ofKey keyY0))))), (36, .bool true), (37, .bool true), (4, .bool true)] (by simp [hvr4_0, hvr4_1, hvr4_2, hvr4_3, hvr4_4, hvr4_5, hvr4_6, hvr4_7, hvr4_8, hvr4_9, hvr4_10, hvr4_11, hvr4_12, hvr4_13, hvr4_14, hvr4_15]) (by kernel_rfl)
            clear hI hvr4_0 hvr4_1 hvr4_2 hvr4_3 hvr4_4 hvr4_5 hvr4_6 hvr4_7 hvr4_8 hvr4_9 hvr4_10 hvr4_11 hvr4_12 hvr4_13 hvr4_14 hvr4_15
            subst ha
            simp only [List.foldl_cons, List.foldl_nil, List.setIfInBounds_toArray, List.set_cons_zero, List.set_cons_succ]
            have Bxr0y0_4 := Lib.hid (hupd.blk (show Blk ws3_0.drew br0_0 23 (numsA .u8 l) from Bxr0y0_s3_0.out) (fun h => h))
            have Bxr0y1_4 := Lib.hid (hupd.blk (show Blk ws3_0.drew br0_1 23 (numsA .u8 m) from Bxr0y1_s3_0.out) (fun h => h))
            have Bxr2y6_4 := Lib.hid (hupd.blk (show Blk ws3_0.drew br2_6 23 (numsA .u8 (keyOf (ladV (clampL l) (ofKey m)))) from Bxr2y6_s3_0.out) (fun h => h))
            have Bxr3y6_4 := Lib.hid (hupd.blk (show Blk ws3_0.drew br3_6 23 (numsA .u8 (keyOf (ladV (clampL l) (ofKey m)))) from Bxr3y6_s3_0.out) (fun h => h))
            have HU4 := Lib.hid (HU3_0.out.drew.trans hupd)
            clear hupd
            refine wpAny_done (by kernel_rfl) ?_ _
            refine hK5 _ _ ?_
            clear hK5
            refine wp_ret ?_
            try dsimp only [Exit.then]
            try dsimp only [Exit.inBlock]
            exact bodyPost_ret (v := .bool true) (results_tmpQ (fn := Tryd.f4) (t := 4) rfl _ _ (.bool true) rfl) rfl ⟨rfl, HU4.out⟩
end Go.Proofs.YtdpafemcpbhlfaaDoor
