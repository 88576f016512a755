/-
  The walk of LadderClimbs.
-/
import Derived.Test.YtdpafemcpbhlfaaDoorRf5b
import Derived.Test.YtdpafemcpbhlfaaDoorAgr
namespace Go.Proofs.YtdpafemcpbhlfaaDoor
set_option maxRecDepth 100000
open Go.RowKit

set_option maxHeartbeats 4000000 in
theorem ladderClimbs_any {l m : List Int} (w : World) (hT : Tw w) (hl : l.length = 32) (hd : Digs 256 l) (hm : m.length = 32) (hn : Digs 256 m) :
    Calls Tryd.prog 3 #[.agg (numsA .u8 l), .agg (numsA .u8 m)] w fun e w' => e = .returned (.bool true) ∧ Upd (fun _ => False) w w' := by
  have HT := Lib.hid hT
  clear hT
  have HU := Lib.hid (Upd.refl (fun _ => False) w)
  go_enter Tryd.func3, Tryd.ntmps3
  refine wp_seq_k fun K0 hK0 => ?_
  refine wp_region_qS 3 #[true, true, true] [] ([.blk ptrTo 23 (fun z => z = numsA .u8 l), .blk ptrTo 23 (fun z => z = numsA .u8 m), .val (.bool false)] : List SQ) (by kernel_rfl) (by kernel_rfl) (by kernel_rfl) ?_ ?_
  · intro i o listed an wn ho hls hst hun hdep hI hpre K' hK'
    have hi : i = 0 ∨ i = 1 ∨ i = 2 ∨ False := slot_cases (l := [0, 1, 2]) rfl ho hst
    rcases hi with rfl | rfl | rfl | hi
    · obtain rfl := Option.some.inj ho
      have hvp : an.eval (.tmp 0) = .agg (numsA .u8 l) := hI.oldQ (by kernel_rfl) rfl
      exact hI.newQ (by kernel_rfl) hls (Nat.le_refl _) (newsQ_spec (l := [0, 1]) (by kernel_rfl) ⟨⟨_, _, rfl⟩, ⟨_, _, rfl⟩, trivial⟩) rfl rfl rfl 23 _ (fun z => z = numsA .u8 l) (run_boxQ rfl hvp wn) rfl rfl hK'
    · obtain rfl := Option.some.inj ho
      have hvp : an.eval (.tmp 1) = .agg (numsA .u8 m) := hI.oldQ (by kernel_rfl) rfl
      exact hI.newQ (by kernel_rfl) hls (Nat.le_refl _) (newsQ_spec (l := [0, 1]) (by kernel_rfl) ⟨⟨_, _, rfl⟩, ⟨_, _, rfl⟩, trivial⟩) rfl rfl rfl 23 _ (fun z => z = numsA .u8 m) (run_boxQ rfl hvp wn) rfl rfl hK'
    · obtain rfl := Option.some.inj ho
      exact hI.pureQ (by kernel_rfl) hls rfl rfl rfl (.bool false) (run_moveQ (.inr rfl) (show an.eval (.const (.bool false)) = .bool false from rfl) wn) (.val (.bool false)) rfl rfl rfl hK'
    · exact hi.elim
  · intro an w1 hI
    obtain ⟨vr0_0, hvr0_0, br0_0, zr0_0, rfl, hnr0_0, hbr0_0, hzr0_0⟩ := hI.haveQ 0 _ 2 (.blk ptrTo 23 (fun z => z = numsA .u8 l)) rfl rfl rfl rfl
    rw [hzr0_0] at hbr0_0
    clear hzr0_0
    obtain ⟨vr0_1, hvr0_1, br0_1, zr0_1, rfl, hnr0_1, hbr0_1, hzr0_1⟩ := hI.haveQ 1 _ 3 (.blk ptrTo 23 (fun z => z = numsA .u8 m)) rfl rfl rfl rfl
    rw [hzr0_1] at hbr0_1
    clear hzr0_1
    obtain ⟨vr0_2, hvr0_2, hsr0_2⟩ := hI.haveQ 2 _ 4 (.val (.bool false)) rfl rfl rfl rfl
    obtain rfl := hsr0_2
    have hupd := hI.upd
    have hner0_0_r0_1 := Lib.hid (show br0_0 ≠ br0_1 from fun e => hI.apart 0 1 _ _ 2 3 (by omega) rfl rfl rfl rfl rfl rfl rfl rfl (by rw [hvr0_0, hvr0_1, e]))
    have ha := hI.act [(2, ptrTo br0_0), (3, ptrTo br0_1), (4, .bool false)] (by simp [hvr0_0, hvr0_1, hvr0_2]) (by kernel_rfl)
    clear hI hvr0_0 hvr0_1 hvr0_2
    subst ha
    simp only [List.foldl_cons, List.foldl_nil, List.setIfInBounds_toArray, List.set_cons_zero, List.set_cons_succ]
    have hger0_0 := Lib.hid (Nat.le_trans HU.out.size hnr0_0)
    have hger0_1 := Lib.hid (Nat.le_trans HU.out.size hnr0_1)
    have Bxr0y0 := Lib.hid hbr0_0
    have Bxr0y1 := Lib.hid hbr0_1
    have HU0 := Lib.hid (HU.out.trans hupd)
    clear hupd
    refine wpOps_nil ?_
    refine hK0 _ _ ?_
    clear hK0
    refine wp_seq_k fun K1 hK1 => ?_
    refine wp_seq_k fun K2 hK2 => ?_
    refine wp_region_qS 2 #[true, true] [] ([.val (.bool true), .val (.bool false)] : List SQ) (by kernel_rfl) (by kernel_rfl) (by kernel_rfl) ?_ ?_
    · intro i o listed an wn ho hls hst hun hdep hI hpre K' hK'
      have hi : i = 0 ∨ i = 1 ∨ False := slot_cases (l := [0, 1]) rfl ho hst
      rcases hi with rfl | rfl | hi
      · obtain rfl := Option.some.inj ho
        exact hI.callQ (by kernel_rfl) hls rfl rfl rfl 16 #[] _ rfl #[] (by simp) (run_enter Tryd.func16 (by kernel_rfl) (by kernel_rfl)) (.val (.bool true)) rfl rfl ((agreesL _ (HT.out.upd (HU0.out.trans hI.upd))).mono fun _ _ h => ret_val h) hK'
      · obtain rfl := Option.some.inj ho
        obtain ⟨vp, hvp, hsp⟩ := hI.haveQ 0 _ 5 (.val (.bool true)) rfl rfl rfl (hdep ⟨0, .data⟩ (by simp) rfl)
        obtain rfl := hsp
        exact hI.pureQ (by kernel_rfl) hls rfl rfl rfl (.bool false) (run_not rfl (eval_of hvp) wn) (.val (.bool false)) rfl rfl rfl hK'
      · exact hi.elim
    · intro an w2 hI
      obtain ⟨vr1_0, hvr1_0, hsr1_0⟩ := hI.haveQ 0 _ 5 (.val (.bool true)) rfl rfl rfl rfl
      obtain rfl := hsr1_0
      obtain ⟨vr1_1, hvr1_1, hsr1_1⟩ := hI.haveQ 1 _ 6 (.val (.bool false)) rfl rfl rfl rfl
      obtain rfl := hsr1_1
      have hupd := hI.upd
      have ha := hI.act [(5, .bool true), (6, .bool false)] (by simp [hvr1_0, hvr1_1]) (by kernel_rfl)
      clear hI hvr1_0 hvr1_1
      subst ha
      simp only [List.foldl_cons, List.foldl_nil, List.setIfInBounds_toArray, List.set_cons_zero, List.set_cons_succ]
      have Bxr0y0_1 := Lib.hid (hupd.blk (show Blk w1 br0_0 23 (numsA .u8 l) from Bxr0y0.out) (fun h => h))
      have Bxr0y1_1 := Lib.hid (hupd.blk (show Blk w1 br0_1 23 (numsA .u8 m) from Bxr0y1.out) (fun h => h))
      have HU1 := Lib.hid (HU0.out.trans hupd)
      clear hupd
      refine wpOps_nil ?_
      refine hK2 _ _ ?_
      clear hK2
      refine wp_cond_false rfl ?_
      refine wp_skip ?_
      refine hK1 _ _ ?_
      clear hK1
      refine wp_seq_k fun K3 hK3 => ?_
      refine wp_region_q #[true, true, true, true, true, true, true, true] ([.val (.agg (numsA .u8 l)), .val (.agg (numsA .u8 m)), .val (.agg (numsA .u8 (keyOf (ladV (clampL l) (ofKey m))))), .val (.agg (numsA .u8 l)), .val (.agg (numsA .u8 m)), .val (.agg (numsA .u8 (keyOf (ladV (clampL l) (ofKey m))))), .val (.bool true), .val (.bool true)] : List SQ) (by kernel_rfl) (by kernel_rfl) (by kernel_rfl) ?_ ?_
      · intro i o listed an wn ho hls hst hun hdep hI K' hK'
        have hi : i = 0 ∨ i = 1 ∨ i = 2 ∨ i = 3 ∨ i = 4 ∨ i = 5 ∨ i = 6 ∨ i = 7 ∨ False := slot_cases (l := [0, 1, 2, 3, 4, 5, 6, 7]) rfl ho hst
        rcases hi with rfl | rfl | rfl | rfl | rfl | rfl | rfl | rfl | hi
        · obtain rfl := Option.some.inj ho
          have hvp : an.eval (.tmp 2) = ptrTo br0_0 := hI.oldQ (by kernel_rfl) rfl
          exact hI.pureQ (by kernel_rfl) hls rfl rfl rfl _ (run_loadQ rfl hvp wn (hI.upd.blk (show Blk w2.drew br0_0 23 (numsA .u8 l) from Bxr0y0_1.out) (fun h => h)) Tryd.underlying23 rfl sizeKey (by rw [numsA_size, hl]; omega)) (.val (.agg (numsA .u8 l))) rfl (congrArg Value.agg (extract_all _ 32 (by rw [numsA_size]; exact hl))) rfl hK'
        · obtain rfl := Option.some.inj ho
          have hvp : an.eval (.tmp 3) = ptrTo br0_1 := hI.oldQ (by kernel_rfl) rfl
          exact hI.pureQ (by kernel_rfl) hls rfl rfl rfl _ (run_loadQ rfl hvp wn (hI.upd.blk (show Blk w2.drew br0_1 23 (numsA .u8 m) from Bxr0y1_1.out) (fun h => h)) Tryd.underlying23 rfl sizeKey (by rw [numsA_size, hm]; omega)) (.val (.agg (numsA .u8 m))) rfl (congrArg Value.agg (extract_all _ 32 (by rw [numsA_size]; exact hm))) rfl hK'
        · obtain rfl := Option.some.inj ho
          obtain ⟨vp, hvp, hsp⟩ := hI.haveQ 0 _ 7 (.val (.agg (numsA .u8 l))) rfl rfl rfl (hdep ⟨0, .data⟩ (by simp) rfl)
          obtain rfl := hsp
          obtain ⟨vq, hvq, hsq⟩ := hI.haveQ 1 _ 8 (.val (.agg (numsA .u8 m))) rfl rfl rfl (hdep ⟨1, .data⟩ (by simp) rfl)
          obtain rfl := hsq
          exact hI.callQ (by kernel_rfl) hls rfl rfl rfl 17 #[.tmp 7, .tmp 8] _ rfl #[.agg (numsA .u8 l), .agg (numsA .u8 m)] (by simp [eval_of hvp, eval_of hvq]) (run_enter Tryd.func17 (by kernel_rfl) (by kernel_rfl)) (.val (.agg (numsA .u8 (keyOf (ladV (clampL l) (ofKey m)))))) rfl rfl ((multiplyL _ (HT.out.upd (HU1.out.drew.trans hI.upd)) hl hd hm hn).mono fun _ _ h => ret_val h) hK'
        · obtain rfl := Option.some.inj ho
          have hvp : an.eval (.tmp 2) = ptrTo br0_0 := hI.oldQ (by kernel_rfl) rfl
          exact hI.pureQ (by kernel_rfl) hls rfl rfl rfl _ (run_loadQ rfl hvp wn (hI.upd.blk (show Blk w2.drew br0_0 23 (numsA .u8 l) from Bxr0y0_1.out) (fun h => h)) Tryd.underlying23 rfl sizeKey (by rw [numsA_size, hl]; omega)) (.val (.agg (numsA .u8 l))) rfl (congrArg Value.agg (extract_all _ 32 (by rw [numsA_size]; exact hl))) rfl hK'
        · obtain rfl := Option.some.inj ho
          have hvp : an.eval (.tmp 3) = ptrTo br0_1 := hI.oldQ (by kernel_rfl) rfl
          exact hI.pureQ (by kernel_rfl) hls rfl rfl rfl _ (run_loadQ rfl hvp wn (hI.upd.blk (show Blk w2.drew br0_1 23 (numsA .u8 m) from Bxr0y1_1.out) (fun h => h)) Tryd.underlying23 rfl sizeKey (by rw [numsA_size, hm]; omega)) (.val (.agg (numsA .u8 m))) rfl (congrArg Value.agg (extract_all _ 32 (by rw [numsA_size]; exact hm))) rfl hK'
        · obtain rfl := Option.some.inj ho
          obtain ⟨vp, hvp, hsp⟩ := hI.haveQ 3 _ 10 (.val (.agg (numsA .u8 l))) rfl rfl rfl (hdep ⟨3, .data⟩ (by simp) rfl)
          obtain rfl := hsp
          obtain ⟨vq, hvq, hsq⟩ := hI.haveQ 4 _ 11 (.val (.agg (numsA .u8 m))) rfl rfl rfl (hdep ⟨4, .data⟩ (by simp) rfl)
          obtain rfl := hsq
          exact hI.callQ (by kernel_rfl) hls rfl rfl rfl 18 #[.tmp 10, .tmp 11] _ rfl #[.agg (numsA .u8 l), .agg (numsA .u8 m)] (by simp [eval_of hvp, eval_of hvq]) (run_enter Tryd.func18 (by kernel_rfl) (by kernel_rfl)) (.val (.agg (numsA .u8 (keyOf (ladV (clampL l) (ofKey m)))))) rfl rfl ((rmultiplyL _ hl hd hm hn).mono fun _ _ h => ret_val h) hK'
        · obtain rfl := Option.some.inj ho
          obtain ⟨vp, hvp, hsp⟩ := hI.haveQ 2 _ 9 (.val (.agg (numsA .u8 (keyOf (ladV (clampL l) (ofKey m)))))) rfl rfl rfl (hdep ⟨2, .data⟩ (by simp) rfl)
          obtain rfl := hsp
          obtain ⟨vq, hvq, hsq⟩ := hI.haveQ 5 _ 12 (.val (.agg (numsA .u8 (keyOf (ladV (clampL l) (ofKey m)))))) rfl rfl rfl (hdep ⟨5, .data⟩ (by simp) rfl)
          obtain rfl := hsq
          exact hI.pureQ (by kernel_rfl) hls rfl rfl rfl (.bool true) (run_eqlK (b := true) rfl (eval_of hvp) (eval_of hvq) (keyOf_length _) (keyOf_length _) (decide_eq_true rfl) wn) (.val (.bool true)) rfl rfl rfl hK'
        · obtain rfl := Option.some.inj ho
          obtain ⟨vp, hvp, hsp⟩ := hI.haveQ 6 _ 13 (.val (.bool true)) rfl rfl rfl (hdep ⟨6, .data⟩ (by simp) rfl)
          obtain rfl := hsp
          exact hI.pureQ (by kernel_rfl) hls rfl rfl rfl (.bool true) (run_moveQ (.inr rfl) (eval_of hvp) wn) (.val (.bool true)) rfl rfl rfl hK'
        · exact hi.elim
      · intro fuel an w3 hf hI
        obtain ⟨vr2_0, hvr2_0, hsr2_0⟩ := hI.haveQ 0 _ 7 (.val (.agg (numsA .u8 l))) rfl rfl rfl rfl
        obtain rfl := hsr2_0
        obtain ⟨vr2_1, hvr2_1, hsr2_1⟩ := hI.haveQ 1 _ 8 (.val (.agg (numsA .u8 m))) rfl rfl rfl rfl
        obtain rfl := hsr2_1
        obtain ⟨vr2_2, hvr2_2, hsr2_2⟩ := hI.haveQ 2 _ 9 (.val (.agg (numsA .u8 (keyOf (ladV (clampL l) (ofKey m)))))) rfl rfl rfl rfl
        obtain rfl := hsr2_2
        obtain ⟨vr2_3, hvr2_3, hsr2_3⟩ := hI.haveQ 3 _ 10 (.val (.agg (numsA .u8 l))) rfl rfl rfl rfl
        obtain rfl := hsr2_3
        obtain ⟨vr2_4, hvr2_4, hsr2_4⟩ := hI.haveQ 4 _ 11 (.val (.agg (numsA .u8 m))) rfl rfl rfl rfl
        obtain rfl := hsr2_4
        obtain ⟨vr2_5, hvr2_5, hsr2_5⟩ := hI.haveQ 5 _ 12 (.val (.agg (numsA .u8 (keyOf (ladV (clampL l) (ofKey m)))))) rfl rfl rfl rfl
        obtain rfl := hsr2_5
        obtain ⟨vr2_6, hvr2_6, hsr2_6⟩ := hI.haveQ 6 _ 13 (.val (.bool true)) rfl rfl rfl rfl
        obtain rfl := hsr2_6
        obtain ⟨vr2_7, hvr2_7, hsr2_7⟩ := hI.haveQ 7 _ 4 (.val (.bool true)) rfl rfl rfl rfl
        obtain rfl := hsr2_7
        have hupd := hI.upd
        have ha := hI.act [(7, .agg (numsA .u8 l)), (8, .agg (numsA .u8 m)), (9, .agg (numsA .u8 (keyOf (ladV (clampL l) (ofKey m))))), (10, .agg (numsA .u8 l)), (11, .agg (numsA .u8 m)), (12, .agg (numsA .u8 (keyOf (ladV (clampL l) (ofKey m))))), (13, .bool true), (4, .bool true)] (by simp [hvr2_0, hvr2_1, hvr2_2, hvr2_3, hvr2_4, hvr2_5, hvr2_6, hvr2_7]) (by kernel_rfl)
        clear hI hvr2_0 hvr2_1 hvr2_2 hvr2_3 hvr2_4 hvr2_5 hvr2_6 hvr2_7
        subst ha
        simp only [List.foldl_cons, List.foldl_nil, List.setIfInBounds_toArray, List.set_cons_zero, List.set_cons_succ]
        have Bxr0y0_2 := Lib.hid (hupd.blk (show Blk w2.drew br0_0 23 (numsA .u8 l) from Bxr0y0_1.out) (fun h => h))
        have Bxr0y1_2 := Lib.hid (hupd.blk (show Blk w2.drew br0_1 23 (numsA .u8 m) from Bxr0y1_1.out) (fun h => h))
        have HU2 := Lib.hid (HU1.out.drew.trans hupd)
        clear hupd
        refine wpAny_done (by kernel_rfl) ?_ _
        refine hK3 _ _ ?_
        clear hK3
        refine wp_ret ?_
        try dsimp only [Exit.then]
        try dsimp only [Exit.inBlock]
        exact bodyPost_ret (v := .bool true) (results_tmpQ (fn := Tryd.f3) (t := 4) rfl _ _ (.bool true) rfl) rfl ⟨rfl, HU2.out⟩
end Go.Proofs.YtdpafemcpbhlfaaDoor
