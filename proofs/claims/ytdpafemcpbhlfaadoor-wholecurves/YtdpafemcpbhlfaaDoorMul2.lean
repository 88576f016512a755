/-
  The walk of ladder.Multiply.
-/
import Derived.Test.YtdpafemcpbhlfaaDoorLadEval
import Derived.Test.YtdpafemcpbhlfaaDoorClamp
import Derived.Test.YtdpafemcpbhlfaaDoorLad1
import Derived.Test.YtdpafemcpbhlfaaDoorWr
namespace Go.Proofs.YtdpafemcpbhlfaaDoor
set_option maxRecDepth 100000
open Go.RowKit

set_option maxHeartbeats 4000000 in
theorem multiplyL {l m : List Int} (w : World) (hT : Tw w) (hl : l.length = 32) (hd : Digs 256 l) (hm : m.length = 32) (hn : Digs 256 m) :
    Calls Tryd.prog 17 #[.agg (numsA .u8 l), .agg (numsA .u8 m)] w fun e w' => e = .returned (.agg (numsA .u8 (keyOf (((ladF (clampL l) (ofKey m) 0).x1) * finv ((ladF (clampL l) (ofKey m) 0).z1))))) ∧ Upd (fun _ => False) w w' := by
  have HT := Lib.hid hT
  clear hT
  have HU := Lib.hid (Upd.refl (fun _ => False) w)
  go_enter Tryd.func17, Tryd.ntmps17
  refine wp_seq_k fun K0 hK0 => ?_
  refine wp_region_qS 3 #[true, true, true] [] ([.blk ptrTo 23 (fun z => z = numsA .u8 l), .blk ptrTo 23 (fun z => z = numsA .u8 m), .blk ptrTo 23 (fun z => z = numsA .u8 zeroKL)] : List SQ) (by kernel_rfl) (by kernel_rfl) (by kernel_rfl) ?_ ?_
  · intro i o listed an wn ho hls hst hun hdep hI hpre K' hK'
    have hi : i = 0 ∨ i = 1 ∨ i = 2 ∨ False := slot_cases (l := [0, 1, 2]) rfl ho hst
    rcases hi with rfl | rfl | rfl | hi
    · obtain rfl := Option.some.inj ho
      have hvp : an.eval (.tmp 0) = .agg (numsA .u8 l) := hI.oldQ (by kernel_rfl) rfl
      exact hI.newQ (by kernel_rfl) hls (Nat.le_refl _) (newsQ_spec (l := [0, 1, 2]) (by kernel_rfl) ⟨⟨_, _, rfl⟩, ⟨_, _, rfl⟩, ⟨_, _, rfl⟩, trivial⟩) rfl rfl rfl 23 _ (fun z => z = numsA .u8 l) (run_boxQ rfl hvp wn) rfl rfl hK'
    · obtain rfl := Option.some.inj ho
      have hvp : an.eval (.tmp 1) = .agg (numsA .u8 m) := hI.oldQ (by kernel_rfl) rfl
      exact hI.newQ (by kernel_rfl) hls (Nat.le_refl _) (newsQ_spec (l := [0, 1, 2]) (by kernel_rfl) ⟨⟨_, _, rfl⟩, ⟨_, _, rfl⟩, ⟨_, _, rfl⟩, trivial⟩) rfl rfl rfl 23 _ (fun z => z = numsA .u8 m) (run_boxQ rfl hvp wn) rfl rfl hK'
    · obtain rfl := Option.some.inj ho
      exact hI.newQ (by kernel_rfl) hls (Nat.le_refl _) (newsQ_spec (l := [0, 1, 2]) (by kernel_rfl) ⟨⟨_, _, rfl⟩, ⟨_, _, rfl⟩, ⟨_, _, rfl⟩, trivial⟩) rfl rfl rfl 23 _ (fun z => z = numsA .u8 zeroKL) (run_allocQ rfl zeroK_run wn) rfl rfl hK'
    · exact hi.elim
  · intro an w1 hI
    obtain ⟨vr0_0, hvr0_0, br0_0, zr0_0, rfl, hnr0_0, hbr0_0, hzr0_0⟩ := hI.haveQ 0 _ 2 (.blk ptrTo 23 (fun z => z = numsA .u8 l)) rfl rfl rfl rfl
    rw [hzr0_0] at hbr0_0
    clear hzr0_0
    obtain ⟨vr0_1, hvr0_1, br0_1, zr0_1, rfl, hnr0_1, hbr0_1, hzr0_1⟩ := hI.haveQ 1 _ 3 (.blk ptrTo 23 (fun z => z = numsA .u8 m)) rfl rfl rfl rfl
    rw [hzr0_1] at hbr0_1
    clear hzr0_1
    obtain ⟨vr0_2, hvr0_2, br0_2, zr0_2, rfl, hnr0_2, hbr0_2, hzr0_2⟩ := hI.haveQ 2 _ 4 (.blk ptrTo 23 (fun z => z = numsA .u8 zeroKL)) rfl rfl rfl rfl
    rw [hzr0_2] at hbr0_2
    clear hzr0_2
    have hupd := hI.upd
    have hner0_0_r0_1 := Lib.hid (show br0_0 ≠ br0_1 from fun e => hI.apart 0 1 _ _ 2 3 (by omega) rfl rfl rfl rfl rfl rfl rfl rfl (by rw [hvr0_0, hvr0_1, e]))
    have hner0_0_r0_2 := Lib.hid (show br0_0 ≠ br0_2 from fun e => hI.apart 0 2 _ _ 2 4 (by omega) rfl rfl rfl rfl rfl rfl rfl rfl (by rw [hvr0_0, hvr0_2, e]))
    have hner0_1_r0_2 := Lib.hid (show br0_1 ≠ br0_2 from fun e => hI.apart 1 2 _ _ 3 4 (by omega) rfl rfl rfl rfl rfl rfl rfl rfl (by rw [hvr0_1, hvr0_2, e]))
    have ha := hI.act [(2, ptrTo br0_0), (3, ptrTo br0_1), (4, ptrTo br0_2)] (by simp [hvr0_0, hvr0_1, hvr0_2]) (by kernel_rfl)
    clear hI hvr0_0 hvr0_1 hvr0_2
    subst ha
    simp only [List.foldl_cons, List.foldl_nil, List.setIfInBounds_toArray, List.set_cons_zero, List.set_cons_succ]
    have hger0_0 := Lib.hid (Nat.le_trans HU.out.size hnr0_0)
    have hger0_1 := Lib.hid (Nat.le_trans HU.out.size hnr0_1)
    have hger0_2 := Lib.hid (Nat.le_trans HU.out.size hnr0_2)
    have Bxr0y0 := Lib.hid hbr0_0
    have Bxr0y1 := Lib.hid hbr0_1
    have Bxr0y2 := Lib.hid hbr0_2
    have HU0 := Lib.hid (HU.out.trans hupd)
    clear hupd
    refine wpOps_nil ?_
    refine hK0 _ _ ?_
    clear hK0
    refine wp_seq_k fun K1 hK1 => ?_
    refine wp_region_qS 2 #[true, true, false] [2] ([.val (.agg (numsA .u8 l)), .val (.agg (numsA .u8 (clampL l))), .val undef] : List SQ) (by kernel_rfl) (by kernel_rfl) (by kernel_rfl) ?_ ?_
    · intro i o listed an wn ho hls hst hun hdep hI hpre K' hK'
      have hi : i = 0 ∨ i = 1 ∨ False := slot_cases (l := [0, 1]) rfl ho hst
      rcases hi with rfl | rfl | hi
      · obtain rfl := Option.some.inj ho
        have hvp : an.eval (.tmp 2) = ptrTo br0_0 := hI.oldQ (by kernel_rfl) rfl
        exact hI.pureQ (by kernel_rfl) hls rfl rfl rfl _ (run_loadQ rfl hvp wn (hI.upd.blk (show Blk w1 br0_0 23 (numsA .u8 l) from Bxr0y0.out) (fun h => h)) Tryd.underlying23 rfl sizeKey (by rw [numsA_size, hl]; omega)) (.val (.agg (numsA .u8 l))) rfl (congrArg Value.agg (extract_all _ 32 (by rw [numsA_size]; exact hl))) rfl hK'
      · obtain rfl := Option.some.inj ho
        obtain ⟨vp, hvp, hsp⟩ := hI.haveQ 0 _ 10 (.val (.agg (numsA .u8 l))) rfl rfl rfl (hdep ⟨0, .data⟩ (by simp) rfl)
        obtain rfl := hsp
        exact hI.callQ (by kernel_rfl) hls rfl rfl rfl 41 #[.tmp 10] _ rfl #[.agg (numsA .u8 l)] (by simp [eval_of hvp]) (run_enter Tryd.func41 (by kernel_rfl) (by kernel_rfl)) (.val (.agg (numsA .u8 (clampL l)))) rfl rfl ((clamp_any l _ hl hd).mono fun _ _ h => ret_val h) hK'
      · exact hi.elim
    · intro an w2 hI
      obtain ⟨vr1_0, hvr1_0, hsr1_0⟩ := hI.haveQ 0 _ 10 (.val (.agg (numsA .u8 l))) rfl rfl rfl rfl
      obtain rfl := hsr1_0
      obtain ⟨vr1_1, hvr1_1, hsr1_1⟩ := hI.haveQ 1 _ 11 (.val (.agg (numsA .u8 (clampL l)))) rfl rfl rfl rfl
      obtain rfl := hsr1_1
      have hupd := hI.upd
      have ha := hI.act [(10, .agg (numsA .u8 l)), (11, .agg (numsA .u8 (clampL l)))] (by simp [hvr1_0, hvr1_1]) (by kernel_rfl)
      clear hI hvr1_0 hvr1_1
      subst ha
      simp only [List.foldl_cons, List.foldl_nil, List.setIfInBounds_toArray, List.set_cons_zero, List.set_cons_succ]
      have Bxr0y0_1 := Lib.hid (hupd.blk (show Blk w1 br0_0 23 (numsA .u8 l) from Bxr0y0.out) (fun h => h))
      have Bxr0y1_1 := Lib.hid (hupd.blk (show Blk w1 br0_1 23 (numsA .u8 m) from Bxr0y1.out) (fun h => h))
      have Bxr0y2_1 := Lib.hid (hupd.blk (show Blk w1 br0_2 23 (numsA .u8 zeroKL) from Bxr0y2.out) (fun h => h))
      have HU1 := Lib.hid (HU0.out.trans hupd)
      clear hupd
      refine wpOps_storeQ 2 rfl rfl rfl 23 (.tmp 2) (.tmp 11) rfl br0_0 0 32 rfl (numsA .u8 (clampL l)) rfl 23 (numsA .u8 l) Bxr0y0_1.out sizeKey (by rw [numsA_size]; exact (clampL_length _).trans hl) (by rw [(show (numsA _ _).size = 32 by rw [numsA_size]; exact hl)]; exact Nat.le_of_ble_eq_true rfl) (numsA_one _ _) ?_
      intro ws1_0 hs1_0 hus1_0
      rw [splice_all _ _ 32 (show (numsA _ _).size = 32 by rw [numsA_size]; exact hl) (by rw [numsA_size]; exact (clampL_length _).trans hl)] at hs1_0
      have Bxr0y1_s1_0 := Lib.hid (hus1_0.blk Bxr0y1_1.out (fun e => hner0_0_r0_1.out e.symm))
      have Bxr0y2_s1_0 := Lib.hid (hus1_0.blk Bxr0y2_1.out (fun e => hner0_0_r0_2.out e.symm))
      have Bxr0y0_s1_0 := Lib.hid hs1_0
      have HU1_0 := Lib.hid (HU1.out.step hus1_0 (fun i hi h => absurd hi (Nat.not_lt.2 (h.symm ▸ hger0_0.out))))
      clear hs1_0 hus1_0
      refine wpOps_nil ?_
      refine hK1 _ _ ?_
      clear hK1
      refine wp_seq_k fun K2 hK2 => ?_
      refine wp_region_qS 3 #[true, true, true, false] [3] ([.val (.agg (numsA .u8 m)), .like (IsC 5 RE [ofKey m]), .blk ptrTo 39 (Ch 5 RE [0]), .val undef] : List SQ) (by kernel_rfl) (by kernel_rfl) (by kernel_rfl) ?_ ?_
      · intro i o listed an wn ho hls hst hun hdep hI hpre K' hK'
        have hi : i = 0 ∨ i = 1 ∨ i = 2 ∨ False := slot_cases (l := [0, 1, 2]) rfl ho hst
        rcases hi with rfl | rfl | rfl | hi
        · obtain rfl := Option.some.inj ho
          have hvp : an.eval (.tmp 3) = ptrTo br0_1 := hI.oldQ (by kernel_rfl) rfl
          exact hI.pureQ (by kernel_rfl) hls rfl rfl rfl _ (run_loadQ rfl hvp wn (hI.upd.blk (show Blk ws1_0 br0_1 23 (numsA .u8 m) from Bxr0y1_s1_0.out) (fun h => h)) Tryd.underlying23 rfl sizeKey (by rw [numsA_size, hm]; omega)) (.val (.agg (numsA .u8 m))) rfl (congrArg Value.agg (extract_all _ 32 (by rw [numsA_size]; exact hm))) rfl hK'
        · obtain rfl := Option.some.inj ho
          obtain ⟨vp, hvp, hsp⟩ := hI.haveQ 0 _ 12 (.val (.agg (numsA .u8 m))) rfl rfl rfl (hdep ⟨0, .data⟩ (by simp) rfl)
          obtain rfl := hsp
          exact hI.callQ (by kernel_rfl) hls rfl rfl rfl 42 #[.tmp 12] _ rfl #[.agg (numsA .u8 m)] (by simp [eval_of hvp]) (run_enter Tryd.func42 (by kernel_rfl) (by kernel_rfl)) (.like (IsC 5 RE [ofKey m])) rfl rfl ((ofE m (hm) (hn)).mono fun _ _ h => h.sq) hK'
        · obtain rfl := Option.some.inj ho
          exact hI.newQ (by kernel_rfl) hls (Nat.le_refl _) (newsQ_spec (l := [2]) (by kernel_rfl) ⟨⟨_, _, rfl⟩, trivial⟩) rfl rfl rfl 39 zE _ (run_allocQ rfl zE_run wn) rfl zE_ch hK'
        · exact hi.elim
      · intro an w3 hI
        obtain ⟨vr2_0, hvr2_0, hsr2_0⟩ := hI.haveQ 0 _ 12 (.val (.agg (numsA .u8 m))) rfl rfl rfl rfl
        obtain rfl := hsr2_0
        obtain ⟨vr2_1, hvr2_1, ar2_1, rfl, hCr2_1⟩ := hI.haveQ 1 _ 13 (.like (IsC 5 RE [ofKey m])) rfl rfl rfl rfl
        obtain ⟨vr2_2, hvr2_2, br2_2, zr2_2, rfl, hnr2_2, hbr2_2, hzr2_2⟩ := hI.haveQ 2 _ 5 (.blk ptrTo 39 (Ch 5 RE [0])) rfl rfl rfl rfl
        have hupd := hI.upd
        have ha := hI.act [(12, .agg (numsA .u8 m)), (13, .agg ar2_1), (5, ptrTo br2_2)] (by simp [hvr2_0, hvr2_1, hvr2_2]) (by kernel_rfl)
        clear hI hvr2_0 hvr2_1 hvr2_2
        subst ha
        simp only [List.foldl_cons, List.foldl_nil, List.setIfInBounds_toArray, List.set_cons_zero, List.set_cons_succ]
        have hner2_2_Bxr0y0_s1_0 := Lib.hid (show br2_2 ≠ br0_0 from Nat.ne_of_gt (Nat.lt_of_lt_of_le Bxr0y0_s1_0.out.lt hnr2_2))
        have hner2_2_Bxr0y1_s1_0 := Lib.hid (show br2_2 ≠ br0_1 from Nat.ne_of_gt (Nat.lt_of_lt_of_le Bxr0y1_s1_0.out.lt hnr2_2))
        have hner2_2_Bxr0y2_s1_0 := Lib.hid (show br2_2 ≠ br0_2 from Nat.ne_of_gt (Nat.lt_of_lt_of_le Bxr0y2_s1_0.out.lt hnr2_2))
        have hger2_2 := Lib.hid (Nat.le_trans HU1_0.out.size hnr2_2)
        have Bxr0y0_2 := Lib.hid (hupd.blk (show Blk ws1_0 br0_0 23 (numsA .u8 (clampL l)) from Bxr0y0_s1_0.out) (fun h => h))
        have Bxr0y1_2 := Lib.hid (hupd.blk (show Blk ws1_0 br0_1 23 (numsA .u8 m) from Bxr0y1_s1_0.out) (fun h => h))
        have Bxr0y2_2 := Lib.hid (hupd.blk (show Blk ws1_0 br0_2 23 (numsA .u8 zeroKL) from Bxr0y2_s1_0.out) (fun h => h))
        have Bxr2y2 := Lib.hid hbr2_2
        have HU2 := Lib.hid (HU1_0.out.trans hupd)
        clear hupd
        refine wpOps_storeQ 3 rfl rfl rfl 39 (.tmp 5) (.tmp 13) rfl br2_2 0 5 rfl ar2_1 rfl 39 zr2_2 Bxr2y2.out szE hCr2_1.size (by rw [hzr2_2.size]; exact Nat.le_of_ble_eq_true rfl) hCr2_1.one' ?_
        intro ws2_0 hs2_0 hus2_0
        rw [splice_all _ _ 5 hzr2_2.size hCr2_1.size] at hs2_0
        have Bxr0y0_s2_0 := Lib.hid (hus2_0.blk Bxr0y0_2.out (fun e => hner2_2_Bxr0y0_s1_0.out e.symm))
        have Bxr0y1_s2_0 := Lib.hid (hus2_0.blk Bxr0y1_2.out (fun e => hner2_2_Bxr0y1_s1_0.out e.symm))
        have Bxr0y2_s2_0 := Lib.hid (hus2_0.blk Bxr0y2_2.out (fun e => hner2_2_Bxr0y2_s1_0.out e.symm))
        have Bxr2y2_s2_0 := Lib.hid hs2_0
        have HU2_0 := Lib.hid (HU2.out.step hus2_0 (fun i hi h => absurd hi (Nat.not_lt.2 (h.symm ▸ hger2_2.out))))
        clear hs2_0 hus2_0
        refine wpOps_nil ?_
        refine hK2 _ _ ?_
        clear hK2
        refine wp_seq_k fun K3 hK3 => ?_
        refine wp_region_r #[true, true, true, true, true, true, true, true] ([.like (IsC 5 RE [fv 1, 0]), .val (.agg ar2_1), .like (IsC 5 RE [fv 1]), .like (IsC 5 RE [ofKey m, fv 1]), .new 72 10, .new 72 10, .val undef, .val undef] : List SR) ([none, none, none, none, none, none, some ⟨6, 4, 72, Ch 5 RE [fv 1, 0]⟩, some ⟨7, 5, 72, Ch 5 RE [ofKey m, fv 1]⟩] : List (Option St)) (by kernel_rfl) (by kernel_rfl) (by kernel_rfl) ?_ ?_
        · intro i o listed an wn ho hls hst hun hdep hI K' hK'
          have hi : i = 0 ∨ i = 1 ∨ i = 2 ∨ i = 3 ∨ i = 4 ∨ i = 5 ∨ i = 6 ∨ i = 7 ∨ False := slot_cases (l := [0, 1, 2, 3, 4, 5, 6, 7]) rfl ho hst
          rcases hi with rfl | rfl | rfl | rfl | rfl | rfl | rfl | rfl | hi
          · obtain rfl := Option.some.inj ho
            exact hI.call (by kernel_rfl) (by kernel_rfl) hls hun rfl rfl rfl 49 #[] _ rfl #[] (by simp) (run_enter Tryd.func49 (by kernel_rfl) (by kernel_rfl)) (.like (IsC 5 RE [fv 1, 0])) rfl rfl ((noneL _).mono fun _ _ h => h.sr) hK'
          · obtain rfl := Option.some.inj ho
            have hvp : an.eval (.tmp 5) = ptrTo br2_2 := hI.old (by kernel_rfl) rfl
            exact hI.pure (by kernel_rfl) (by kernel_rfl) hls hun rfl rfl rfl _ (run_loadQ rfl hvp wn (hI.sl.upd.blk (show Blk ws2_0.drew br2_2 39 ar2_1 from Bxr2y2_s2_0.out) (fun h => h)) Tryd.underlying39 rfl szE (by rw [hCr2_1.size]; exact Nat.le_of_ble_eq_true rfl)) (.val (.agg ar2_1)) rfl (congrArg Value.agg (extract_all _ 5 hCr2_1.size)) rfl hK'
          · obtain rfl := Option.some.inj ho
            exact hI.call (by kernel_rfl) (by kernel_rfl) hls hun rfl rfl rfl 43 #[.const (.int .u32 1)] _ rfl #[.int .u32 1] (by simp [Act.eval]) (run_enter Tryd.func43 (by kernel_rfl) (by kernel_rfl)) (.like (IsC 5 RE [fv 1])) rfl rfl ((smallE 1 (by decide) (by decide)).mono fun _ _ h => h.sr) hK'
          · obtain rfl := Option.some.inj ho
            obtain ⟨vp, hvp, hsp⟩ := hI.have 1 _ 15 (.val (.agg ar2_1)) rfl rfl rfl (hdep ⟨1, .data⟩ (by simp) rfl)
            obtain rfl := hsp
            obtain ⟨vq, hvq, aq, rfl, hCq⟩ := hI.have 2 _ 16 (.like (IsC 5 RE [fv 1])) rfl rfl rfl (hdep ⟨2, .data⟩ (by simp) rfl)
            exact hI.pure (by kernel_rfl) (by kernel_rfl) hls hun rfl rfl rfl _ (run_buildRatio rfl (eval_of hvp) (eval_of hvq) hCr2_1.size hCq.size wn) (.like (IsC 5 RE [ofKey m, fv 1])) rfl ⟨_, rfl, (hCr2_1.cat hCq)⟩ rfl hK'
          · obtain rfl := Option.some.inj ho
            exact hI.new (by kernel_rfl) (by kernel_rfl) hls hun (newsR_spec (l := [4, 5]) (by kernel_rfl) ⟨⟨_, _, rfl⟩, ⟨_, _, rfl⟩, trivial⟩) rfl rfl rfl 72 zRatio (run_allocQ rfl zRatio_run wn) rfl hK'
          · obtain rfl := Option.some.inj ho
            exact hI.new (by kernel_rfl) (by kernel_rfl) hls hun (newsR_spec (l := [4, 5]) (by kernel_rfl) ⟨⟨_, _, rfl⟩, ⟨_, _, rfl⟩, trivial⟩) rfl rfl rfl 72 zRatio (run_allocQ rfl zRatio_run wn) rfl hK'
          · obtain rfl := Option.some.inj ho
            obtain ⟨vp, hvp, ap, rfl, hCp⟩ := hI.have 0 _ 14 (.like (IsC 5 RE [fv 1, 0])) rfl rfl rfl (hdep ⟨0, .data⟩ (by simp) rfl)
            exact hI.store (by kernel_rfl) hls hdep rfl rfl rfl ⟨6, 4, 72, Ch 5 RE [fv 1, 0]⟩ rfl ⟨4, .data⟩ (by simp) rfl rfl 10 rfl 72 (.tmp 14) rfl ap (eval_of hvp) szRatio hCp.size hCp.one' hCp hK'
          · obtain rfl := Option.some.inj ho
            obtain ⟨vp, hvp, ap, rfl, hCp⟩ := hI.have 3 _ 17 (.like (IsC 5 RE [ofKey m, fv 1])) rfl rfl rfl (hdep ⟨3, .data⟩ (by simp) rfl)
            exact hI.store (by kernel_rfl) hls hdep rfl rfl rfl ⟨7, 5, 72, Ch 5 RE [ofKey m, fv 1]⟩ rfl ⟨5, .data⟩ (by simp) rfl rfl 10 rfl 72 (.tmp 17) rfl ap (eval_of hvp) szRatio hCp.size hCp.one' hCp hK'
          · exact hi.elim
        · intro fuel an w4 hf hI
          obtain ⟨vr3_0, hvr3_0, ar3_0, rfl, hCr3_0⟩ := hI.have 0 _ 14 (.like (IsC 5 RE [fv 1, 0])) rfl rfl rfl rfl
          obtain ⟨vr3_1, hvr3_1, hsr3_1⟩ := hI.have 1 _ 15 (.val (.agg ar2_1)) rfl rfl rfl rfl
          obtain rfl := hsr3_1
          obtain ⟨vr3_2, hvr3_2, ar3_2, rfl, hCr3_2⟩ := hI.have 2 _ 16 (.like (IsC 5 RE [fv 1])) rfl rfl rfl rfl
          obtain ⟨vr3_3, hvr3_3, ar3_3, rfl, hCr3_3⟩ := hI.have 3 _ 17 (.like (IsC 5 RE [ofKey m, fv 1])) rfl rfl rfl rfl
          obtain ⟨vr3_4, hvr3_4, br3_4, zr3_4, rfl, hnr3_4, hbr3_4, hzr3_4⟩ := hI.have 4 _ 6 (.new 72 10) rfl rfl rfl rfl
          obtain ⟨vr3_5, hvr3_5, br3_5, zr3_5, rfl, hnr3_5, hbr3_5, hzr3_5⟩ := hI.have 5 _ 7 (.new 72 10) rfl rfl rfl rfl
          obtain ⟨-, cr3_6, yr3_6, hpr3_6, hBr3_6, hyr3_6⟩ := hI.mem 6 ⟨6, 4, 72, Ch 5 RE [fv 1, 0]⟩ rfl rfl
          obtain rfl := ptr_inj (hvr3_4.symm.trans hpr3_6)
          obtain ⟨-, cr3_7, yr3_7, hpr3_7, hBr3_7, hyr3_7⟩ := hI.mem 7 ⟨7, 5, 72, Ch 5 RE [ofKey m, fv 1]⟩ rfl rfl
          obtain rfl := ptr_inj (hvr3_5.symm.trans hpr3_7)
          have hupd := hI.sl.upd
          have hner3_4_r3_5 := Lib.hid (show cr3_6 ≠ cr3_7 from fun e => hI.sl.apart 4 5 _ _ 6 7 (by omega) rfl rfl rfl rfl rfl rfl rfl rfl (by rw [hvr3_4, hvr3_5, e]))
          have ha := hI.sl.act [(14, .agg ar3_0), (15, .agg ar2_1), (16, .agg ar3_2), (17, .agg ar3_3), (6, ptrTo cr3_6), (7, ptrTo cr3_7)] (by simp [hvr3_0, hvr3_1, hvr3_2, hvr3_3, hvr3_4, hvr3_5]) (by kernel_rfl)
          clear hI
          subst ha
          simp only [List.foldl_cons, List.foldl_nil, List.setIfInBounds_toArray, List.set_cons_zero, List.set_cons_succ]
          have hner3_4_Bxr0y0_s2_0 := Lib.hid (show cr3_6 ≠ br0_0 from Nat.ne_of_gt (Nat.lt_of_lt_of_le Bxr0y0_s2_0.out.lt hnr3_4))
          have hner3_4_Bxr0y1_s2_0 := Lib.hid (show cr3_6 ≠ br0_1 from Nat.ne_of_gt (Nat.lt_of_lt_of_le Bxr0y1_s2_0.out.lt hnr3_4))
          have hner3_4_Bxr0y2_s2_0 := Lib.hid (show cr3_6 ≠ br0_2 from Nat.ne_of_gt (Nat.lt_of_lt_of_le Bxr0y2_s2_0.out.lt hnr3_4))
          have hner3_4_Bxr2y2_s2_0 := Lib.hid (show cr3_6 ≠ br2_2 from Nat.ne_of_gt (Nat.lt_of_lt_of_le Bxr2y2_s2_0.out.lt hnr3_4))
          have hger3_4 := Lib.hid (Nat.le_trans HU2_0.out.size hnr3_4)
          have hner3_5_Bxr0y0_s2_0 := Lib.hid (show cr3_7 ≠ br0_0 from Nat.ne_of_gt (Nat.lt_of_lt_of_le Bxr0y0_s2_0.out.lt hnr3_5))
          have hner3_5_Bxr0y1_s2_0 := Lib.hid (show cr3_7 ≠ br0_1 from Nat.ne_of_gt (Nat.lt_of_lt_of_le Bxr0y1_s2_0.out.lt hnr3_5))
          have hner3_5_Bxr0y2_s2_0 := Lib.hid (show cr3_7 ≠ br0_2 from Nat.ne_of_gt (Nat.lt_of_lt_of_le Bxr0y2_s2_0.out.lt hnr3_5))
          have hner3_5_Bxr2y2_s2_0 := Lib.hid (show cr3_7 ≠ br2_2 from Nat.ne_of_gt (Nat.lt_of_lt_of_le Bxr2y2_s2_0.out.lt hnr3_5))
          have hger3_5 := Lib.hid (Nat.le_trans HU2_0.out.size hnr3_5)
          have Bxr0y0_3 := Lib.hid (hupd.blk (show Blk ws2_0.drew br0_0 23 (numsA .u8 (clampL l)) from Bxr0y0_s2_0.out) (fun h => h))
          have Bxr0y1_3 := Lib.hid (hupd.blk (show Blk ws2_0.drew br0_1 23 (numsA .u8 m) from Bxr0y1_s2_0.out) (fun h => h))
          have Bxr0y2_3 := Lib.hid (hupd.blk (show Blk ws2_0.drew br0_2 23 (numsA .u8 zeroKL) from Bxr0y2_s2_0.out) (fun h => h))
          have Bxr2y2_3 := Lib.hid (hupd.blk (show Blk ws2_0.drew br2_2 39 ar2_1 from Bxr2y2_s2_0.out) (fun h => h))
          have Bxr3y4 := Lib.hid hBr3_6
          have Bxr3y5 := Lib.hid hBr3_7
          have HU3 := Lib.hid (HU2_0.out.drew.trans hupd)
          clear hupd
          refine wpAny_done (by kernel_rfl) ?_ _
          refine hK3 _ _ ?_
          clear hK3
          refine wp_seq_k fun K4 hK4 => ?_
          refine wp_seq_k fun K5 hK5 => ?_
          refine wp_region_qS 1 #[true] [] ([.val (.int .i64 254)] : List SQ) (by kernel_rfl) (by kernel_rfl) (by kernel_rfl) ?_ ?_
          · intro i o listed an wn ho hls hst hun hdep hI hpre K' hK'
            have hi : i = 0 ∨ False := slot_cases (l := [0]) rfl ho hst
            rcases hi with rfl | hi
            · obtain rfl := Option.some.inj ho
              exact hI.pureQ (by kernel_rfl) hls rfl rfl rfl (.int .i64 254) (run_moveQ (.inr rfl) (show an.eval (.const (.int .i64 254)) = .int .i64 254 from rfl) wn) (.val (.int .i64 254)) rfl rfl rfl hK'
            · exact hi.elim
          · intro an w5 hI
            obtain ⟨vr4_0, hvr4_0, hsr4_0⟩ := hI.haveQ 0 _ 8 (.val (.int .i64 254)) rfl rfl rfl rfl
            obtain rfl := hsr4_0
            have hupd := hI.upd
            have ha := hI.act [(8, .int .i64 254)] (by simp [hvr4_0]) (by kernel_rfl)
            clear hI hvr4_0
            subst ha
            simp only [List.foldl_cons, List.foldl_nil, List.setIfInBounds_toArray, List.set_cons_zero, List.set_cons_succ]
            have Bxr0y0_4 := Lib.hid (hupd.blk (show Blk w4 br0_0 23 (numsA .u8 (clampL l)) from Bxr0y0_3.out) (fun h => h))
            have Bxr0y1_4 := Lib.hid (hupd.blk (show Blk w4 br0_1 23 (numsA .u8 m) from Bxr0y1_3.out) (fun h => h))
            have Bxr0y2_4 := Lib.hid (hupd.blk (show Blk w4 br0_2 23 (numsA .u8 zeroKL) from Bxr0y2_3.out) (fun h => h))
            have Bxr2y2_4 := Lib.hid (hupd.blk (show Blk w4 br2_2 39 ar2_1 from Bxr2y2_3.out) (fun h => h))
            have Bxr3y4_4 := Lib.hid (hupd.blk (show Blk w4 cr3_6 72 yr3_6 from Bxr3y4.out) (fun h => h))
            have Bxr3y5_4 := Lib.hid (hupd.blk (show Blk w4 cr3_7 72 yr3_7 from Bxr3y5.out) (fun h => h))
            have HU4 := Lib.hid (HU3.out.trans hupd)
            clear hupd
            refine wpOps_nil ?_
            refine hK5 _ _ ?_
            clear hK5
            refine wp_block ?_
            refine wp_loop (fun a' w' => ∃ (k : Nat) (u6_9 u6_18 u6_19 u6_20 u6_21 u6_22 u6_23 u6_24 u6_25 u6_26 u6_27 u6_28 u6_29 u6_30 u6_31 u6_32 u6_33 u6_34 u6_35 u6_36 u6_37 u6_38 u6_39 u6_40 u6_41 u6_42 u6_43 u6_44 u6_45 u6_46 u6_47 u6_48 u6_49 u6_50 u6_51 : Value) (A6_6 A6_7 : Array Value), k ≤ 255 ∧ a' = ⟨#[.agg (numsA .u8 l), .agg (numsA .u8 m), ptrTo br0_0, ptrTo br0_1, ptrTo br0_2, ptrTo br2_2, ptrTo cr3_6, ptrTo cr3_7, .int .i64 ((k : Int) - 1), u6_9, .agg (numsA .u8 l), .agg (numsA .u8 (clampL l)), .agg (numsA .u8 m), .agg ar2_1, .agg ar3_0, .agg ar2_1, .agg ar3_2, .agg ar3_3, u6_18, u6_19, u6_20, u6_21, u6_22, u6_23, u6_24, u6_25, u6_26, u6_27, u6_28, u6_29, u6_30, u6_31, u6_32, u6_33, u6_34, u6_35, u6_36, u6_37, u6_38, u6_39, u6_40, u6_41, u6_42, u6_43, u6_44, u6_45, u6_46, u6_47, u6_48, u6_49, u6_50, u6_51, undef, undef, undef], []⟩ ∧ Upd (fun _ => False) w w' ∧ Blk w' cr3_6 72 A6_6 ∧ Ch 5 RE [(ladF (clampL l) (ofKey m) k).x1, (ladF (clampL l) (ofKey m) k).z1] A6_6 ∧ Blk w' cr3_7 72 A6_7 ∧ Ch 5 RE [(ladF (clampL l) (ofKey m) k).x2, (ladF (clampL l) (ofKey m) k).z2] A6_7 ∧ Blk w' br0_0 23 (numsA .u8 (clampL l)) ∧ Blk w' br0_1 23 (numsA .u8 m) ∧ Blk w' br0_2 23 (numsA .u8 zeroKL) ∧ Blk w' br2_2 39 ar2_1) (fun a' _ => (intOf (a'.tmps.getD 8 undef) + 1).toNat) ?_ ?_
            · exact ⟨255, undef, undef, undef, undef, undef, undef, undef, undef, undef, undef, undef, undef, undef, undef, undef, undef, undef, undef, undef, undef, undef, undef, undef, undef, undef, undef, undef, undef, undef, undef, undef, undef, undef, undef, undef, yr3_6, yr3_7, Nat.le_refl _, rfl, HU4.out, Bxr3y4_4.out, (show Ch 5 RE [fv 1, 0] yr3_6 from hyr3_6).to (by rw [ladF_top]), Bxr3y5_4.out, (show Ch 5 RE [ofKey m, fv 1] yr3_7 from hyr3_7).to (by rw [ladF_top]), Bxr0y0_4.out, Bxr0y1_4.out, Bxr0y2_4.out, Bxr2y2_4.out⟩
            · rintro a' wl6 ⟨k, u6_9, u6_18, u6_19, u6_20, u6_21, u6_22, u6_23, u6_24, u6_25, u6_26, u6_27, u6_28, u6_29, u6_30, u6_31, u6_32, u6_33, u6_34, u6_35, u6_36, u6_37, u6_38, u6_39, u6_40, u6_41, u6_42, u6_43, u6_44, u6_45, u6_46, u6_47, u6_48, u6_49, u6_50, u6_51, A6_6, A6_7, hk6, rfl, hul, hbl6, hcl6, hbl7, hcl7, hol0, hol1, hol2, hol3⟩
              have HUl6 := Lib.hid hul
              have Bxr3y4_l6 := Lib.hid hbl6
              have Bxr3y5_l6 := Lib.hid hbl7
              have Bxr0y0_l6 := Lib.hid hol0
              have Bxr0y1_l6 := Lib.hid hol1
              have Bxr0y2_l6 := Lib.hid hol2
              have Bxr2y2_l6 := Lib.hid hol3
              clear hul hbl6 hbl7 hol0 hol1 hol2 hol3
              by_cases hlt : 0 < k
              · obtain ⟨j, rfl⟩ : ∃ j, k = j + 1 := ⟨k - 1, by omega⟩
                rw [show ((j + 1 : Nat) : Int) - 1 = (j : Int) by omega]
                clear hlt
                refine wp_seq_k fun K7 hK7 => ?_
                refine wp_seq_k fun K8 hK8 => ?_
                have hq5_1 : decide (((0 : Int) ≤ (j : Int) : Prop)) = true := decide_eq_true (by omega)
                refine wp_region_qS 2 #[true, true] [] ([.val (.int .i64 (j : Int)), .val (.bool true)] : List SQ) (by kernel_rfl) (by kernel_rfl) (by kernel_rfl) ?_ ?_
                · intro i o listed an wn ho hls hst hun hdep hI hpre K' hK'
                  have hi : i = 0 ∨ i = 1 ∨ False := slot_cases (l := [0, 1]) rfl ho hst
                  rcases hi with rfl | rfl | hi
                  · obtain rfl := Option.some.inj ho
                    have hvp : an.eval (.tmp 8) = .int .i64 (j : Int) := hI.oldQ (by kernel_rfl) rfl
                    exact hI.pureQ (by kernel_rfl) hls rfl rfl rfl (.int .i64 (j : Int)) (run_moveQ (.inl rfl) hvp wn) (.val (.int .i64 (j : Int))) rfl rfl rfl hK'
                  · obtain rfl := Option.some.inj ho
                    obtain ⟨vp, hvp, hsp⟩ := hI.haveQ 0 _ 18 (.val (.int .i64 (j : Int))) rfl rfl rfl (hdep ⟨0, .data⟩ (by simp) rfl)
                    obtain rfl := hsp
                    exact hI.pureQ (by kernel_rfl) hls rfl rfl rfl (.bool true) (run_geq rfl (eval_of hvp) rfl hq5_1 wn) (.val (.bool true)) rfl rfl rfl hK'
                  · exact hi.elim
                · intro an w6 hI
                  obtain ⟨vr5_0, hvr5_0, hsr5_0⟩ := hI.haveQ 0 _ 18 (.val (.int .i64 (j : Int))) rfl rfl rfl rfl
                  obtain rfl := hsr5_0
                  obtain ⟨vr5_1, hvr5_1, hsr5_1⟩ := hI.haveQ 1 _ 19 (.val (.bool true)) rfl rfl rfl rfl
                  obtain rfl := hsr5_1
                  have hupd := hI.upd
                  have ha := hI.act [(18, .int .i64 (j : Int)), (19, .bool true)] (by simp [hvr5_0, hvr5_1]) (by kernel_rfl)
                  clear hI hvr5_0 hvr5_1
                  subst ha
                  simp only [List.foldl_cons, List.foldl_nil, List.setIfInBounds_toArray, List.set_cons_zero, List.set_cons_succ]
                  have Bxr0y0_5 := Lib.hid (hupd.blk (show Blk wl6 br0_0 23 (numsA .u8 (clampL l)) from Bxr0y0_l6.out) (fun h => h))
                  have Bxr0y1_5 := Lib.hid (hupd.blk (show Blk wl6 br0_1 23 (numsA .u8 m) from Bxr0y1_l6.out) (fun h => h))
                  have Bxr0y2_5 := Lib.hid (hupd.blk (show Blk wl6 br0_2 23 (numsA .u8 zeroKL) from Bxr0y2_l6.out) (fun h => h))
                  have Bxr2y2_5 := Lib.hid (hupd.blk (show Blk wl6 br2_2 39 ar2_1 from Bxr2y2_l6.out) (fun h => h))
                  have Bxr3y4_5 := Lib.hid (hupd.blk (show Blk wl6 cr3_6 72 A6_6 from Bxr3y4_l6.out) (fun h => h))
                  have Bxr3y5_5 := Lib.hid (hupd.blk (show Blk wl6 cr3_7 72 A6_7 from Bxr3y5_l6.out) (fun h => h))
                  have HU5 := Lib.hid (HUl6.out.trans hupd)
                  clear hupd
                  refine wpOps_nil ?_
                  refine hK8 _ _ ?_
                  clear hK8
                  refine wp_cond_true rfl ?_
                  refine wp_skip ?_
                  refine hK7 _ _ ?_
                  clear hK7
                  refine wp_seq_k fun K9 hK9 => ?_
                  refine wp_block ?_
                  refine wp_seq_k fun K10 hK10 => ?_
                  refine wp_region_qS 10 #[true, true, true, true, true, true, true, true, true, true] [] ([.val (.int .i64 (j : Int)), .val (.int .i64 ((j / 8 : Nat) : Int)), .val (.pointer (some ⟨br0_0, 0 + (j / 8), none⟩)), .val (.int .u8 ((clampL l).getD (j / 8) 0)), .val (.int .i64 (j : Int)), .val (.int .i64 ((j % 8 : Nat) : Int)), .val (.int .u8 (((clampL l).getD (j / 8) 0) / 2 ^ (j % 8))), .val (.int .u8 ((((clampL l).getD (j / 8) 0) / 2 ^ (j % 8)) % 2)), .val (.bool (kb (clampL l) j)), .val (.bool (kb (clampL l) j))] : List SQ) (by kernel_rfl) (by kernel_rfl) (by kernel_rfl) ?_ ?_
                  · intro i o listed an wn ho hls hst hun hdep hI hpre K' hK'
                    have hi : i = 0 ∨ i = 1 ∨ i = 2 ∨ i = 3 ∨ i = 4 ∨ i = 5 ∨ i = 6 ∨ i = 7 ∨ i = 8 ∨ i = 9 ∨ False := slot_cases (l := [0, 1, 2, 3, 4, 5, 6, 7, 8, 9]) rfl ho hst
                    rcases hi with rfl | rfl | rfl | rfl | rfl | rfl | rfl | rfl | rfl | rfl | hi
                    · obtain rfl := Option.some.inj ho
                      have hvp : an.eval (.tmp 8) = .int .i64 (j : Int) := hI.oldQ (by kernel_rfl) rfl
                      exact hI.pureQ (by kernel_rfl) hls rfl rfl rfl (.int .i64 (j : Int)) (run_moveQ (.inl rfl) hvp wn) (.val (.int .i64 (j : Int))) rfl rfl rfl hK'
                    · obtain rfl := Option.some.inj ho
                      obtain ⟨vp, hvp, hsp⟩ := hI.haveQ 0 _ 22 (.val (.int .i64 (j : Int))) rfl rfl rfl (hdep ⟨0, .data⟩ (by simp) rfl)
                      obtain rfl := hsp
                      exact hI.pureQ (by kernel_rfl) hls rfl rfl rfl (.int .i64 ((j / 8 : Nat) : Int)) (run_quo rfl (eval_of hvp) rfl (by decide) (quo8 _ (by omega)) wn) (.val (.int .i64 ((j / 8 : Nat) : Int))) rfl rfl rfl hK'
                    · obtain rfl := Option.some.inj ho
                      have hvp : an.eval (.tmp 2) = ptrTo br0_0 := hI.oldQ (by kernel_rfl) rfl
                      obtain ⟨vq, hvq, hsq⟩ := hI.haveQ 1 _ 23 (.val (.int .i64 ((j / 8 : Nat) : Int))) rfl rfl rfl (hdep ⟨1, .data⟩ (by simp) rfl)
                      obtain rfl := hsq
                      exact hI.pureQ (by kernel_rfl) hls rfl rfl rfl (.pointer (some ⟨br0_0, 0 + (j / 8), none⟩)) (run_adr (off := 0) (i := (j / 8)) rfl Tryd.underlying23 size5 hvp (eval_of hvq) (by omega) wn) (.val (.pointer (some ⟨br0_0, 0 + (j / 8), none⟩))) rfl rfl rfl hK'
                    · obtain rfl := Option.some.inj ho
                      obtain ⟨vp, hvp, hsp⟩ := hI.haveQ 2 _ 24 (.val (.pointer (some ⟨br0_0, 0 + (j / 8), none⟩))) rfl rfl rfl (hdep ⟨2, .data⟩ (by simp) rfl)
                      obtain rfl := hsp
                      exact hI.pureQ (by kernel_rfl) hls rfl rfl rfl (.int .u8 ((clampL l).getD (j / 8) 0)) (run_cellQ rfl Tryd.underlying5 (eval_of hvp) wn (hI.upd.blk (show Blk w6 br0_0 23 (numsA .u8 (clampL l)) from Bxr0y0_5.out) (fun h => h)) (by rw [Nat.zero_add]; exact numsA_get _ _ _ (by rw [(clampL_length _).trans hl]; omega))) (.val (.int .u8 ((clampL l).getD (j / 8) 0))) rfl rfl rfl hK'
                    · obtain rfl := Option.some.inj ho
                      have hvp : an.eval (.tmp 8) = .int .i64 (j : Int) := hI.oldQ (by kernel_rfl) rfl
                      exact hI.pureQ (by kernel_rfl) hls rfl rfl rfl (.int .i64 (j : Int)) (run_moveQ (.inl rfl) hvp wn) (.val (.int .i64 (j : Int))) rfl rfl rfl hK'
                    · obtain rfl := Option.some.inj ho
                      obtain ⟨vp, hvp, hsp⟩ := hI.haveQ 4 _ 26 (.val (.int .i64 (j : Int))) rfl rfl rfl (hdep ⟨4, .data⟩ (by simp) rfl)
                      obtain rfl := hsp
                      exact hI.pureQ (by kernel_rfl) hls rfl rfl rfl (.int .i64 ((j % 8 : Nat) : Int)) (run_rem rfl (eval_of hvp) rfl (by decide) (rem8 _) wn) (.val (.int .i64 ((j % 8 : Nat) : Int))) rfl rfl rfl hK'
                    · obtain rfl := Option.some.inj ho
                      obtain ⟨vp, hvp, hsp⟩ := hI.haveQ 3 _ 25 (.val (.int .u8 ((clampL l).getD (j / 8) 0))) rfl rfl rfl (hdep ⟨3, .data⟩ (by simp) rfl)
                      obtain rfl := hsp
                      obtain ⟨vq, hvq, hsq⟩ := hI.haveQ 5 _ 27 (.val (.int .i64 ((j % 8 : Nat) : Int))) rfl rfl rfl (hdep ⟨5, .data⟩ (by simp) rfl)
                      obtain rfl := hsq
                      exact hI.pureQ (by kernel_rfl) hls rfl rfl rfl (.int .u8 (((clampL l).getD (j / 8) 0) / 2 ^ (j % 8))) (run_shr8 rfl (eval_of hvp) (eval_of hvq) (Nat.mod_lt _ (by decide)) wn) (.val (.int .u8 (((clampL l).getD (j / 8) 0) / 2 ^ (j % 8)))) rfl rfl rfl hK'
                    · obtain rfl := Option.some.inj ho
                      obtain ⟨vp, hvp, hsp⟩ := hI.haveQ 6 _ 28 (.val (.int .u8 (((clampL l).getD (j / 8) 0) / 2 ^ (j % 8)))) rfl rfl rfl (hdep ⟨6, .data⟩ (by simp) rfl)
                      obtain rfl := hsp
                      exact hI.pureQ (by kernel_rfl) hls rfl rfl rfl (.int .u8 ((((clampL l).getD (j / 8) 0) / 2 ^ (j % 8)) % 2)) (run_and8 rfl (eval_of hvp) rfl (byte_shift _ (Digs.get (B := 256) (by decide) (clampL_digs hd) _) _) wn) (.val (.int .u8 ((((clampL l).getD (j / 8) 0) / 2 ^ (j % 8)) % 2))) rfl rfl rfl hK'
                    · obtain rfl := Option.some.inj ho
                      obtain ⟨vp, hvp, hsp⟩ := hI.haveQ 7 _ 29 (.val (.int .u8 ((((clampL l).getD (j / 8) 0) / 2 ^ (j % 8)) % 2))) rfl rfl rfl (hdep ⟨7, .data⟩ (by simp) rfl)
                      obtain rfl := hsp
                      exact hI.pureQ (by kernel_rfl) hls rfl rfl rfl (.bool (kb (clampL l) j)) (run_eql rfl (eval_of hvp) rfl rfl wn) (.val (.bool (kb (clampL l) j))) rfl rfl rfl hK'
                    · obtain rfl := Option.some.inj ho
                      obtain ⟨vp, hvp, hsp⟩ := hI.haveQ 8 _ 30 (.val (.bool (kb (clampL l) j))) rfl rfl rfl (hdep ⟨8, .data⟩ (by simp) rfl)
                      obtain rfl := hsp
                      exact hI.pureQ (by kernel_rfl) hls rfl rfl rfl (.bool (kb (clampL l) j)) (run_moveQ (.inr rfl) (eval_of hvp) wn) (.val (.bool (kb (clampL l) j))) rfl rfl rfl hK'
                    · exact hi.elim
                  · intro an w7 hI
                    obtain ⟨vr6_0, hvr6_0, hsr6_0⟩ := hI.haveQ 0 _ 22 (.val (.int .i64 (j : Int))) rfl rfl rfl rfl
                    obtain rfl := hsr6_0
                    obtain ⟨vr6_1, hvr6_1, hsr6_1⟩ := hI.haveQ 1 _ 23 (.val (.int .i64 ((j / 8 : Nat) : Int))) rfl rfl rfl rfl
                    obtain rfl := hsr6_1
                    obtain ⟨vr6_2, hvr6_2, hsr6_2⟩ := hI.haveQ 2 _ 24 (.val (.pointer (some ⟨br0_0, 0 + (j / 8), none⟩))) rfl rfl rfl rfl
                    obtain rfl := hsr6_2
                    obtain ⟨vr6_3, hvr6_3, hsr6_3⟩ := hI.haveQ 3 _ 25 (.val (.int .u8 ((clampL l).getD (j / 8) 0))) rfl rfl rfl rfl
                    obtain rfl := hsr6_3
                    obtain ⟨vr6_4, hvr6_4, hsr6_4⟩ := hI.haveQ 4 _ 26 (.val (.int .i64 (j : Int))) rfl rfl rfl rfl
                    obtain rfl := hsr6_4
                    obtain ⟨vr6_5, hvr6_5, hsr6_5⟩ := hI.haveQ 5 _ 27 (.val (.int .i64 ((j % 8 : Nat) : Int))) rfl rfl rfl rfl
                    obtain rfl := hsr6_5
                    obtain ⟨vr6_6, hvr6_6, hsr6_6⟩ := hI.haveQ 6 _ 28 (.val (.int .u8 (((clampL l).getD (j / 8) 0) / 2 ^ (j % 8)))) rfl rfl rfl rfl
                    obtain rfl := hsr6_6
                    obtain ⟨vr6_7, hvr6_7, hsr6_7⟩ := hI.haveQ 7 _ 29 (.val (.int .u8 ((((clampL l).getD (j / 8) 0) / 2 ^ (j % 8)) % 2))) rfl rfl rfl rfl
                    obtain rfl := hsr6_7
                    obtain ⟨vr6_8, hvr6_8, hsr6_8⟩ := hI.haveQ 8 _ 30 (.val (.bool (kb (clampL l) j))) rfl rfl rfl rfl
                    obtain rfl := hsr6_8
                    obtain ⟨vr6_9, hvr6_9, hsr6_9⟩ := hI.haveQ 9 _ 9 (.val (.bool (kb (clampL l) j))) rfl rfl rfl rfl
                    obtain rfl := hsr6_9
                    have hupd := hI.upd
                    have ha := hI.act [(22, .int .i64 (j : Int)), (23, .int .i64 ((j / 8 : Nat) : Int)), (24, .pointer (some ⟨br0_0, 0 + (j / 8), none⟩)), (25, .int .u8 ((clampL l).getD (j / 8) 0)), (26, .int .i64 (j : Int)), (27, .int .i64 ((j % 8 : Nat) : Int)), (28, .int .u8 (((clampL l).getD (j / 8) 0) / 2 ^ (j % 8))), (29, .int .u8 ((((clampL l).getD (j / 8) 0) / 2 ^ (j % 8)) % 2)), (30, .bool (kb (clampL l) j)), (9, .bool (kb (clampL l) j))] (by simp [hvr6_0, hvr6_1, hvr6_2, hvr6_3, hvr6_4, hvr6_5, hvr6_6, hvr6_7, hvr6_8, hvr6_9]) (by kernel_rfl)
                    clear hI hvr6_0 hvr6_1 hvr6_2 hvr6_3 hvr6_4 hvr6_5 hvr6_6 hvr6_7 hvr6_8 hvr6_9
                    subst ha
                    simp only [List.foldl_cons, List.foldl_nil, List.setIfInBounds_toArray, List.set_cons_zero, List.set_cons_succ]
                    have Bxr0y0_6 := Lib.hid (hupd.blk (show Blk w6 br0_0 23 (numsA .u8 (clampL l)) from Bxr0y0_5.out) (fun h => h))
                    have Bxr0y1_6 := Lib.hid (hupd.blk (show Blk w6 br0_1 23 (numsA .u8 m) from Bxr0y1_5.out) (fun h => h))
                    have Bxr0y2_6 := Lib.hid (hupd.blk (show Blk w6 br0_2 23 (numsA .u8 zeroKL) from Bxr0y2_5.out) (fun h => h))
                    have Bxr2y2_6 := Lib.hid (hupd.blk (show Blk w6 br2_2 39 ar2_1 from Bxr2y2_5.out) (fun h => h))
                    have Bxr3y4_6 := Lib.hid (hupd.blk (show Blk w6 cr3_6 72 A6_6 from Bxr3y4_5.out) (fun h => h))
                    have Bxr3y5_6 := Lib.hid (hupd.blk (show Blk w6 cr3_7 72 A6_7 from Bxr3y5_5.out) (fun h => h))
                    have HU6 := Lib.hid (HU5.out.trans hupd)
                    clear hupd
                    refine wpOps_nil ?_
                    refine hK10 _ _ ?_
                    clear hK10
                    refine wp_seq_k fun K11 hK11 => ?_
                    refine wp_region_qS 7 #[true, true, true, true, true, true, true, false, false] [7, 8] ([.val (.bool (kb (clampL l) j)), .val (.agg A6_6), .val (.agg A6_7), .like (IsC2 5 RE [(turnF (kb (clampL l) j) (ladF (clampL l) (ofKey m) (j + 1))).x1, (turnF (kb (clampL l) j) (ladF (clampL l) (ofKey m) (j + 1))).z1] [(turnF (kb (clampL l) j) (ladF (clampL l) (ofKey m) (j + 1))).x2, (turnF (kb (clampL l) j) (ladF (clampL l) (ofKey m) (j + 1))).z2]), .like (IsC2 5 RE [(turnF (kb (clampL l) j) (ladF (clampL l) (ofKey m) (j + 1))).x1, (turnF (kb (clampL l) j) (ladF (clampL l) (ofKey m) (j + 1))).z1] [(turnF (kb (clampL l) j) (ladF (clampL l) (ofKey m) (j + 1))).x2, (turnF (kb (clampL l) j) (ladF (clampL l) (ofKey m) (j + 1))).z2]), .like (IsC 5 RE [(turnF (kb (clampL l) j) (ladF (clampL l) (ofKey m) (j + 1))).x1, (turnF (kb (clampL l) j) (ladF (clampL l) (ofKey m) (j + 1))).z1]), .like (IsC 5 RE [(turnF (kb (clampL l) j) (ladF (clampL l) (ofKey m) (j + 1))).x2, (turnF (kb (clampL l) j) (ladF (clampL l) (ofKey m) (j + 1))).z2]), .val undef, .val undef] : List SQ) (by kernel_rfl) (by kernel_rfl) (by kernel_rfl) ?_ ?_
                    · intro i o listed an wn ho hls hst hun hdep hI hpre K' hK'
                      have hi : i = 0 ∨ i = 1 ∨ i = 2 ∨ i = 3 ∨ i = 4 ∨ i = 5 ∨ i = 6 ∨ False := slot_cases (l := [0, 1, 2, 3, 4, 5, 6]) rfl ho hst
                      rcases hi with rfl | rfl | rfl | rfl | rfl | rfl | rfl | hi
                      · obtain rfl := Option.some.inj ho
                        have hvp : an.eval (.tmp 9) = .bool (kb (clampL l) j) := hI.oldQ (by kernel_rfl) rfl
                        exact hI.pureQ (by kernel_rfl) hls rfl rfl rfl (.bool (kb (clampL l) j)) (run_moveQ (.inl rfl) hvp wn) (.val (.bool (kb (clampL l) j))) rfl rfl rfl hK'
                      · obtain rfl := Option.some.inj ho
                        have hvp : an.eval (.tmp 6) = ptrTo cr3_6 := hI.oldQ (by kernel_rfl) rfl
                        exact hI.pureQ (by kernel_rfl) hls rfl rfl rfl _ (run_loadQ rfl hvp wn (hI.upd.blk (show Blk w7 cr3_6 72 A6_6 from Bxr3y4_6.out) (fun h => h)) Tryd.underlying72 rfl szRatio (by rw [hcl6.size]; exact Nat.le_of_ble_eq_true rfl)) (.val (.agg A6_6)) rfl (congrArg Value.agg (extract_all _ 10 hcl6.size)) rfl hK'
                      · obtain rfl := Option.some.inj ho
                        have hvp : an.eval (.tmp 7) = ptrTo cr3_7 := hI.oldQ (by kernel_rfl) rfl
                        exact hI.pureQ (by kernel_rfl) hls rfl rfl rfl _ (run_loadQ rfl hvp wn (hI.upd.blk (show Blk w7 cr3_7 72 A6_7 from Bxr3y5_6.out) (fun h => h)) Tryd.underlying72 rfl szRatio (by rw [hcl7.size]; exact Nat.le_of_ble_eq_true rfl)) (.val (.agg A6_7)) rfl (congrArg Value.agg (extract_all _ 10 hcl7.size)) rfl hK'
                      · obtain rfl := Option.some.inj ho
                        obtain ⟨vp, hvp, hsp⟩ := hI.haveQ 0 _ 32 (.val (.bool (kb (clampL l) j))) rfl rfl rfl (hdep ⟨0, .data⟩ (by simp) rfl)
                        obtain rfl := hsp
                        obtain ⟨vq, hvq, hsq⟩ := hI.haveQ 1 _ 33 (.val (.agg A6_6)) rfl rfl rfl (hdep ⟨1, .data⟩ (by simp) rfl)
                        obtain rfl := hsq
                        obtain ⟨vr, hvr, hsr⟩ := hI.haveQ 2 _ 34 (.val (.agg A6_7)) rfl rfl rfl (hdep ⟨2, .data⟩ (by simp) rfl)
                        obtain rfl := hsr
                        exact hI.callQ (by kernel_rfl) hls rfl rfl rfl 50 #[.tmp 32, .tmp 33, .tmp 34] _ rfl #[.bool (kb (clampL l) j), .agg A6_6, .agg A6_7] (by simp [eval_of hvp, eval_of hvq, eval_of hvr]) (run_enter Tryd.func50 (by kernel_rfl) (by kernel_rfl)) (.like (IsC2 5 RE [(turnF (kb (clampL l) j) (ladF (clampL l) (ofKey m) (j + 1))).x1, (turnF (kb (clampL l) j) (ladF (clampL l) (ofKey m) (j + 1))).z1] [(turnF (kb (clampL l) j) (ladF (clampL l) (ofKey m) (j + 1))).x2, (turnF (kb (clampL l) j) (ladF (clampL l) (ofKey m) (j + 1))).z2])) rfl rfl ((turnedL _ hcl6 hcl7).mono fun _ _ h => h.sq) hK'
                      · obtain rfl := Option.some.inj ho
                        obtain ⟨vp, hvp, ap, bp, rfl, hCp, hDp⟩ := hI.haveQ 3 _ 35 (.like (IsC2 5 RE [(turnF (kb (clampL l) j) (ladF (clampL l) (ofKey m) (j + 1))).x1, (turnF (kb (clampL l) j) (ladF (clampL l) (ofKey m) (j + 1))).z1] [(turnF (kb (clampL l) j) (ladF (clampL l) (ofKey m) (j + 1))).x2, (turnF (kb (clampL l) j) (ladF (clampL l) (ofKey m) (j + 1))).z2])) rfl rfl rfl (hdep ⟨3, .data⟩ (by simp) rfl)
                        exact hI.pureQ (by kernel_rfl) hls rfl rfl rfl _ (run_moveQ (.inl rfl) (eval_of hvp) wn) (.like (IsC2 5 RE [(turnF (kb (clampL l) j) (ladF (clampL l) (ofKey m) (j + 1))).x1, (turnF (kb (clampL l) j) (ladF (clampL l) (ofKey m) (j + 1))).z1] [(turnF (kb (clampL l) j) (ladF (clampL l) (ofKey m) (j + 1))).x2, (turnF (kb (clampL l) j) (ladF (clampL l) (ofKey m) (j + 1))).z2])) rfl ⟨_, _, rfl, hCp, hDp⟩ rfl hK'
                      · obtain rfl := Option.some.inj ho
                        obtain ⟨vp, hvp, ap, bp, rfl, hCp, hDp⟩ := hI.haveQ 4 _ 31 (.like (IsC2 5 RE [(turnF (kb (clampL l) j) (ladF (clampL l) (ofKey m) (j + 1))).x1, (turnF (kb (clampL l) j) (ladF (clampL l) (ofKey m) (j + 1))).z1] [(turnF (kb (clampL l) j) (ladF (clampL l) (ofKey m) (j + 1))).x2, (turnF (kb (clampL l) j) (ladF (clampL l) (ofKey m) (j + 1))).z2])) rfl rfl rfl (hdep ⟨4, .data⟩ (by simp) rfl)
                        exact hI.pureQ (by kernel_rfl) hls rfl rfl rfl _ (run_extractQ rfl (eval_of hvp) rfl wn) (.like (IsC 5 RE [(turnF (kb (clampL l) j) (ladF (clampL l) (ofKey m) (j + 1))).x1, (turnF (kb (clampL l) j) (ladF (clampL l) (ofKey m) (j + 1))).z1])) rfl ⟨_, rfl, hCp⟩ rfl hK'
                      · obtain rfl := Option.some.inj ho
                        obtain ⟨vp, hvp, ap, bp, rfl, hCp, hDp⟩ := hI.haveQ 4 _ 31 (.like (IsC2 5 RE [(turnF (kb (clampL l) j) (ladF (clampL l) (ofKey m) (j + 1))).x1, (turnF (kb (clampL l) j) (ladF (clampL l) (ofKey m) (j + 1))).z1] [(turnF (kb (clampL l) j) (ladF (clampL l) (ofKey m) (j + 1))).x2, (turnF (kb (clampL l) j) (ladF (clampL l) (ofKey m) (j + 1))).z2])) rfl rfl rfl (hdep ⟨4, .data⟩ (by simp) rfl)
                        exact hI.pureQ (by kernel_rfl) hls rfl rfl rfl _ (run_extractQ rfl (eval_of hvp) rfl wn) (.like (IsC 5 RE [(turnF (kb (clampL l) j) (ladF (clampL l) (ofKey m) (j + 1))).x2, (turnF (kb (clampL l) j) (ladF (clampL l) (ofKey m) (j + 1))).z2])) rfl ⟨_, rfl, hDp⟩ rfl hK'
                      · exact hi.elim
                    · intro an w8 hI
                      obtain ⟨vr7_0, hvr7_0, hsr7_0⟩ := hI.haveQ 0 _ 32 (.val (.bool (kb (clampL l) j))) rfl rfl rfl rfl
                      obtain rfl := hsr7_0
                      obtain ⟨vr7_1, hvr7_1, hsr7_1⟩ := hI.haveQ 1 _ 33 (.val (.agg A6_6)) rfl rfl rfl rfl
                      obtain rfl := hsr7_1
                      obtain ⟨vr7_2, hvr7_2, hsr7_2⟩ := hI.haveQ 2 _ 34 (.val (.agg A6_7)) rfl rfl rfl rfl
                      obtain rfl := hsr7_2
                      obtain ⟨vr7_3, hvr7_3, ar7_3, br7_3, rfl, hCr7_3, hDr7_3⟩ := hI.haveQ 3 _ 35 (.like (IsC2 5 RE [(turnF (kb (clampL l) j) (ladF (clampL l) (ofKey m) (j + 1))).x1, (turnF (kb (clampL l) j) (ladF (clampL l) (ofKey m) (j + 1))).z1] [(turnF (kb (clampL l) j) (ladF (clampL l) (ofKey m) (j + 1))).x2, (turnF (kb (clampL l) j) (ladF (clampL l) (ofKey m) (j + 1))).z2])) rfl rfl rfl rfl
                      obtain ⟨vr7_4, hvr7_4, ar7_4, br7_4, rfl, hCr7_4, hDr7_4⟩ := hI.haveQ 4 _ 31 (.like (IsC2 5 RE [(turnF (kb (clampL l) j) (ladF (clampL l) (ofKey m) (j + 1))).x1, (turnF (kb (clampL l) j) (ladF (clampL l) (ofKey m) (j + 1))).z1] [(turnF (kb (clampL l) j) (ladF (clampL l) (ofKey m) (j + 1))).x2, (turnF (kb (clampL l) j) (ladF (clampL l) (ofKey m) (j + 1))).z2])) rfl rfl rfl rfl
                      obtain ⟨vr7_5, hvr7_5, ar7_5, rfl, hCr7_5⟩ := hI.haveQ 5 _ 36 (.like (IsC 5 RE [(turnF (kb (clampL l) j) (ladF (clampL l) (ofKey m) (j + 1))).x1, (turnF (kb (clampL l) j) (ladF (clampL l) (ofKey m) (j + 1))).z1])) rfl rfl rfl rfl
                      obtain ⟨vr7_6, hvr7_6, ar7_6, rfl, hCr7_6⟩ := hI.haveQ 6 _ 37 (.like (IsC 5 RE [(turnF (kb (clampL l) j) (ladF (clampL l) (ofKey m) (j + 1))).x2, (turnF (kb (clampL l) j) (ladF (clampL l) (ofKey m) (j + 1))).z2])) rfl rfl rfl rfl
                      have hupd := hI.upd
                      have ha := hI.act [(32, .bool (kb (clampL l) j)), (33, .agg A6_6), (34, .agg A6_7), (35, .tuple #[.agg ar7_3, .agg br7_3]), (31, .tuple #[.agg ar7_4, .agg br7_4]), (36, .agg ar7_5), (37, .agg ar7_6)] (by simp [hvr7_0, hvr7_1, hvr7_2, hvr7_3, hvr7_4, hvr7_5, hvr7_6]) (by kernel_rfl)
                      clear hI hvr7_0 hvr7_1 hvr7_2 hvr7_3 hvr7_4 hvr7_5 hvr7_6
                      subst ha
                      simp only [List.foldl_cons, List.foldl_nil, List.setIfInBounds_toArray, List.set_cons_zero, List.set_cons_succ]
                      have Bxr0y0_7 := Lib.hid (hupd.blk (show Blk w7 br0_0 23 (numsA .u8 (clampL l)) from Bxr0y0_6.out) (fun h => h))
                      have Bxr0y1_7 := Lib.hid (hupd.blk (show Blk w7 br0_1 23 (numsA .u8 m) from Bxr0y1_6.out) (fun h => h))
                      have Bxr0y2_7 := Lib.hid (hupd.blk (show Blk w7 br0_2 23 (numsA .u8 zeroKL) from Bxr0y2_6.out) (fun h => h))
                      have Bxr2y2_7 := Lib.hid (hupd.blk (show Blk w7 br2_2 39 ar2_1 from Bxr2y2_6.out) (fun h => h))
                      have Bxr3y4_7 := Lib.hid (hupd.blk (show Blk w7 cr3_6 72 A6_6 from Bxr3y4_6.out) (fun h => h))
                      have Bxr3y5_7 := Lib.hid (hupd.blk (show Blk w7 cr3_7 72 A6_7 from Bxr3y5_6.out) (fun h => h))
                      have HU7 := Lib.hid (HU6.out.trans hupd)
                      clear hupd
                      refine wpOps_storeQ 7 rfl rfl rfl 72 (.tmp 6) (.tmp 36) rfl cr3_6 0 10 rfl ar7_5 rfl 72 A6_6 Bxr3y4_7.out szRatio hCr7_5.size (by rw [hcl6.size]; exact Nat.le_of_ble_eq_true rfl) hCr7_5.one' ?_
                      intro ws7_0 hs7_0 hus7_0
                      rw [splice_all _ _ 10 hcl6.size hCr7_5.size] at hs7_0
                      have Bxr0y0_s7_0 := Lib.hid (hus7_0.blk Bxr0y0_7.out (fun e => hner3_4_Bxr0y0_s2_0.out e.symm))
                      have Bxr0y1_s7_0 := Lib.hid (hus7_0.blk Bxr0y1_7.out (fun e => hner3_4_Bxr0y1_s2_0.out e.symm))
                      have Bxr0y2_s7_0 := Lib.hid (hus7_0.blk Bxr0y2_7.out (fun e => hner3_4_Bxr0y2_s2_0.out e.symm))
                      have Bxr2y2_s7_0 := Lib.hid (hus7_0.blk Bxr2y2_7.out (fun e => hner3_4_Bxr2y2_s2_0.out e.symm))
                      have Bxr3y5_s7_0 := Lib.hid (hus7_0.blk Bxr3y5_7.out (fun e => hner3_4_r3_5.out e.symm))
                      have Bxr3y4_s7_0 := Lib.hid hs7_0
                      have HU7_0 := Lib.hid (HU7.out.step hus7_0 (fun i hi h => absurd hi (Nat.not_lt.2 (h.symm ▸ hger3_4.out))))
                      clear hs7_0 hus7_0
                      refine wpOps_storeQ 8 rfl rfl rfl 72 (.tmp 7) (.tmp 37) rfl cr3_7 0 10 rfl ar7_6 rfl 72 A6_7 Bxr3y5_s7_0.out szRatio hCr7_6.size (by rw [hcl7.size]; exact Nat.le_of_ble_eq_true rfl) hCr7_6.one' ?_
                      intro ws7_1 hs7_1 hus7_1
                      rw [splice_all _ _ 10 hcl7.size hCr7_6.size] at hs7_1
                      have Bxr0y0_s7_1 := Lib.hid (hus7_1.blk Bxr0y0_s7_0.out (fun e => hner3_5_Bxr0y0_s2_0.out e.symm))
                      have Bxr0y1_s7_1 := Lib.hid (hus7_1.blk Bxr0y1_s7_0.out (fun e => hner3_5_Bxr0y1_s2_0.out e.symm))
                      have Bxr0y2_s7_1 := Lib.hid (hus7_1.blk Bxr0y2_s7_0.out (fun e => hner3_5_Bxr0y2_s2_0.out e.symm))
                      have Bxr2y2_s7_1 := Lib.hid (hus7_1.blk Bxr2y2_s7_0.out (fun e => hner3_5_Bxr2y2_s2_0.out e.symm))
                      have Bxr3y4_s7_1 := Lib.hid (hus7_1.blk Bxr3y4_s7_0.out (fun e => hner3_4_r3_5.out e))
                      have Bxr3y5_s7_1 := Lib.hid hs7_1
                      have HU7_1 := Lib.hid (HU7_0.out.step hus7_1 (fun i hi h => absurd hi (Nat.not_lt.2 (h.symm ▸ hger3_5.out))))
                      clear hs7_1 hus7_1
                      refine wpOps_nil ?_
                      refine hK11 _ _ ?_
                      clear hK11
                      refine wp_seq_k fun K12 hK12 => ?_
                      refine wp_region_qS 7 #[true, true, true, true, true, true, true, false, false] [7, 8] ([.val (.agg ar7_5), .val (.agg ar7_6), .val (.agg ar2_1), .like (IsC2 5 RE [(stepF (ofKey m) (turnF (kb (clampL l) j) (ladF (clampL l) (ofKey m) (j + 1)))).x1, (stepF (ofKey m) (turnF (kb (clampL l) j) (ladF (clampL l) (ofKey m) (j + 1)))).z1] [(stepF (ofKey m) (turnF (kb (clampL l) j) (ladF (clampL l) (ofKey m) (j + 1)))).x2, (stepF (ofKey m) (turnF (kb (clampL l) j) (ladF (clampL l) (ofKey m) (j + 1)))).z2]), .like (IsC2 5 RE [(stepF (ofKey m) (turnF (kb (clampL l) j) (ladF (clampL l) (ofKey m) (j + 1)))).x1, (stepF (ofKey m) (turnF (kb (clampL l) j) (ladF (clampL l) (ofKey m) (j + 1)))).z1] [(stepF (ofKey m) (turnF (kb (clampL l) j) (ladF (clampL l) (ofKey m) (j + 1)))).x2, (stepF (ofKey m) (turnF (kb (clampL l) j) (ladF (clampL l) (ofKey m) (j + 1)))).z2]), .like (IsC 5 RE [(stepF (ofKey m) (turnF (kb (clampL l) j) (ladF (clampL l) (ofKey m) (j + 1)))).x1, (stepF (ofKey m) (turnF (kb (clampL l) j) (ladF (clampL l) (ofKey m) (j + 1)))).z1]), .like (IsC 5 RE [(stepF (ofKey m) (turnF (kb (clampL l) j) (ladF (clampL l) (ofKey m) (j + 1)))).x2, (stepF (ofKey m) (turnF (kb (clampL l) j) (ladF (clampL l) (ofKey m) (j + 1)))).z2]), .val undef, .val undef] : List SQ) (by kernel_rfl) (by kernel_rfl) (by kernel_rfl) ?_ ?_
                      · intro i o listed an wn ho hls hst hun hdep hI hpre K' hK'
                        have hi : i = 0 ∨ i = 1 ∨ i = 2 ∨ i = 3 ∨ i = 4 ∨ i = 5 ∨ i = 6 ∨ False := slot_cases (l := [0, 1, 2, 3, 4, 5, 6]) rfl ho hst
                        rcases hi with rfl | rfl | rfl | rfl | rfl | rfl | rfl | hi
                        · obtain rfl := Option.some.inj ho
                          have hvp : an.eval (.tmp 6) = ptrTo cr3_6 := hI.oldQ (by kernel_rfl) rfl
                          exact hI.pureQ (by kernel_rfl) hls rfl rfl rfl _ (run_loadQ rfl hvp wn (hI.upd.blk (show Blk ws7_1 cr3_6 72 ar7_5 from Bxr3y4_s7_1.out) (fun h => h)) Tryd.underlying72 rfl szRatio (by rw [hCr7_5.size]; exact Nat.le_of_ble_eq_true rfl)) (.val (.agg ar7_5)) rfl (congrArg Value.agg (extract_all _ 10 hCr7_5.size)) rfl hK'
                        · obtain rfl := Option.some.inj ho
                          have hvp : an.eval (.tmp 7) = ptrTo cr3_7 := hI.oldQ (by kernel_rfl) rfl
                          exact hI.pureQ (by kernel_rfl) hls rfl rfl rfl _ (run_loadQ rfl hvp wn (hI.upd.blk (show Blk ws7_1 cr3_7 72 ar7_6 from Bxr3y5_s7_1.out) (fun h => h)) Tryd.underlying72 rfl szRatio (by rw [hCr7_6.size]; exact Nat.le_of_ble_eq_true rfl)) (.val (.agg ar7_6)) rfl (congrArg Value.agg (extract_all _ 10 hCr7_6.size)) rfl hK'
                        · obtain rfl := Option.some.inj ho
                          have hvp : an.eval (.tmp 5) = ptrTo br2_2 := hI.oldQ (by kernel_rfl) rfl
                          exact hI.pureQ (by kernel_rfl) hls rfl rfl rfl _ (run_loadQ rfl hvp wn (hI.upd.blk (show Blk ws7_1 br2_2 39 ar2_1 from Bxr2y2_s7_1.out) (fun h => h)) Tryd.underlying39 rfl szE (by rw [hCr2_1.size]; exact Nat.le_of_ble_eq_true rfl)) (.val (.agg ar2_1)) rfl (congrArg Value.agg (extract_all _ 5 hCr2_1.size)) rfl hK'
                        · obtain rfl := Option.some.inj ho
                          obtain ⟨vp, hvp, hsp⟩ := hI.haveQ 0 _ 39 (.val (.agg ar7_5)) rfl rfl rfl (hdep ⟨0, .data⟩ (by simp) rfl)
                          obtain rfl := hsp
                          obtain ⟨vq, hvq, hsq⟩ := hI.haveQ 1 _ 40 (.val (.agg ar7_6)) rfl rfl rfl (hdep ⟨1, .data⟩ (by simp) rfl)
                          obtain rfl := hsq
                          obtain ⟨vr, hvr, hsr⟩ := hI.haveQ 2 _ 41 (.val (.agg ar2_1)) rfl rfl rfl (hdep ⟨2, .data⟩ (by simp) rfl)
                          obtain rfl := hsr
                          exact hI.callQ (by kernel_rfl) hls rfl rfl rfl 51 #[.tmp 39, .tmp 40, .tmp 41] _ rfl #[.agg ar7_5, .agg ar7_6, .agg ar2_1] (by simp [eval_of hvp, eval_of hvq, eval_of hvr]) (run_enter Tryd.func51 (by kernel_rfl) (by kernel_rfl)) (.like (IsC2 5 RE [(stepF (ofKey m) (turnF (kb (clampL l) j) (ladF (clampL l) (ofKey m) (j + 1)))).x1, (stepF (ofKey m) (turnF (kb (clampL l) j) (ladF (clampL l) (ofKey m) (j + 1)))).z1] [(stepF (ofKey m) (turnF (kb (clampL l) j) (ladF (clampL l) (ofKey m) (j + 1)))).x2, (stepF (ofKey m) (turnF (kb (clampL l) j) (ladF (clampL l) (ofKey m) (j + 1)))).z2])) rfl rfl ((stepL _ (HT.out.upd (HU7_1.out.trans hI.upd)) hCr7_5 hCr7_6 hCr2_1).mono fun _ _ h => h.sq) hK'
                        · obtain rfl := Option.some.inj ho
                          obtain ⟨vp, hvp, ap, bp, rfl, hCp, hDp⟩ := hI.haveQ 3 _ 42 (.like (IsC2 5 RE [(stepF (ofKey m) (turnF (kb (clampL l) j) (ladF (clampL l) (ofKey m) (j + 1)))).x1, (stepF (ofKey m) (turnF (kb (clampL l) j) (ladF (clampL l) (ofKey m) (j + 1)))).z1] [(stepF (ofKey m) (turnF (kb (clampL l) j) (ladF (clampL l) (ofKey m) (j + 1)))).x2, (stepF (ofKey m) (turnF (kb (clampL l) j) (ladF (clampL l) (ofKey m) (j + 1)))).z2])) rfl rfl rfl (hdep ⟨3, .data⟩ (by simp) rfl)
                          exact hI.pureQ (by kernel_rfl) hls rfl rfl rfl _ (run_moveQ (.inl rfl) (eval_of hvp) wn) (.like (IsC2 5 RE [(stepF (ofKey m) (turnF (kb (clampL l) j) (ladF (clampL l) (ofKey m) (j + 1)))).x1, (stepF (ofKey m) (turnF (kb (clampL l) j) (ladF (clampL l) (ofKey m) (j + 1)))).z1] [(stepF (ofKey m) (turnF (kb (clampL l) j) (ladF (clampL l) (ofKey m) (j + 1)))).x2, (stepF (ofKey m) (turnF (kb (clampL l) j) (ladF (clampL l) (ofKey m) (j + 1)))).z2])) rfl ⟨_, _, rfl, hCp, hDp⟩ rfl hK'
                        · obtain rfl := Option.some.inj ho
                          obtain ⟨vp, hvp, ap, bp, rfl, hCp, hDp⟩ := hI.haveQ 4 _ 38 (.like (IsC2 5 RE [(stepF (ofKey m) (turnF (kb (clampL l) j) (ladF (clampL l) (ofKey m) (j + 1)))).x1, (stepF (ofKey m) (turnF (kb (clampL l) j) (ladF (clampL l) (ofKey m) (j + 1)))).z1] [(stepF (ofKey m) (turnF (kb (clampL l) j) (ladF (clampL l) (ofKey m) (j + 1)))).x2, (stepF (ofKey m) (turnF (kb (clampL l) j) (ladF (clampL l) (ofKey m) (j + 1)))).z2])) rfl rfl rfl (hdep ⟨4, .data⟩ (by simp) rfl)
                          exact hI.pureQ (by kernel_rfl) hls rfl rfl rfl _ (run_extractQ rfl (eval_of hvp) rfl wn) (.like (IsC 5 RE [(stepF (ofKey m) (turnF (kb (clampL l) j) (ladF (clampL l) (ofKey m) (j + 1)))).x1, (stepF (ofKey m) (turnF (kb (clampL l) j) (ladF (clampL l) (ofKey m) (j + 1)))).z1])) rfl ⟨_, rfl, hCp⟩ rfl hK'
                        · obtain rfl := Option.some.inj ho
                          obtain ⟨vp, hvp, ap, bp, rfl, hCp, hDp⟩ := hI.haveQ 4 _ 38 (.like (IsC2 5 RE [(stepF (ofKey m) (turnF (kb (clampL l) j) (ladF (clampL l) (ofKey m) (j + 1)))).x1, (stepF (ofKey m) (turnF (kb (clampL l) j) (ladF (clampL l) (ofKey m) (j + 1)))).z1] [(stepF (ofKey m) (turnF (kb (clampL l) j) (ladF (clampL l) (ofKey m) (j + 1)))).x2, (stepF (ofKey m) (turnF (kb (clampL l) j) (ladF (clampL l) (ofKey m) (j + 1)))).z2])) rfl rfl rfl (hdep ⟨4, .data⟩ (by simp) rfl)
                          exact hI.pureQ (by kernel_rfl) hls rfl rfl rfl _ (run_extractQ rfl (eval_of hvp) rfl wn) (.like (IsC 5 RE [(stepF (ofKey m) (turnF (kb (clampL l) j) (ladF (clampL l) (ofKey m) (j + 1)))).x2, (stepF (ofKey m) (turnF (kb (clampL l) j) (ladF (clampL l) (ofKey m) (j + 1)))).z2])) rfl ⟨_, rfl, hDp⟩ rfl hK'
                        · exact hi.elim
                      · intro an w9 hI
                        obtain ⟨vr8_0, hvr8_0, hsr8_0⟩ := hI.haveQ 0 _ 39 (.val (.agg ar7_5)) rfl rfl rfl rfl
                        obtain rfl := hsr8_0
                        obtain ⟨vr8_1, hvr8_1, hsr8_1⟩ := hI.haveQ 1 _ 40 (.val (.agg ar7_6)) rfl rfl rfl rfl
                        obtain rfl := hsr8_1
                        obtain ⟨vr8_2, hvr8_2, hsr8_2⟩ := hI.haveQ 2 _ 41 (.val (.agg ar2_1)) rfl rfl rfl rfl
                        obtain rfl := hsr8_2
                        obtain ⟨vr8_3, hvr8_3, ar8_3, br8_3, rfl, hCr8_3, hDr8_3⟩ := hI.haveQ 3 _ 42 (.like (IsC2 5 RE [(stepF (ofKey m) (turnF (kb (clampL l) j) (ladF (clampL l) (ofKey m) (j + 1)))).x1, (stepF (ofKey m) (turnF (kb (clampL l) j) (ladF (clampL l) (ofKey m) (j + 1)))).z1] [(stepF (ofKey m) (turnF (kb (clampL l) j) (ladF (clampL l) (ofKey m) (j + 1)))).x2, (stepF (ofKey m) (turnF (kb (clampL l) j) (ladF (clampL l) (ofKey m) (j + 1)))).z2])) rfl rfl rfl rfl
                        obtain ⟨vr8_4, hvr8_4, ar8_4, br8_4, rfl, hCr8_4, hDr8_4⟩ := hI.haveQ 4 _ 38 (.like (IsC2 5 RE [(stepF (ofKey m) (turnF (kb (clampL l) j) (ladF (clampL l) (ofKey m) (j + 1)))).x1, (stepF (ofKey m) (turnF (kb (clampL l) j) (ladF (clampL l) (ofKey m) (j + 1)))).z1] [(stepF (ofKey m) (turnF (kb (clampL l) j) (ladF (clampL l) (ofKey m) (j + 1)))).x2, (stepF (ofKey m) (turnF (kb (clampL l) j) (ladF (clampL l) (ofKey m) (j + 1)))).z2])) rfl rfl rfl rfl
                        obtain ⟨vr8_5, hvr8_5, ar8_5, rfl, hCr8_5⟩ := hI.haveQ 5 _ 43 (.like (IsC 5 RE [(stepF (ofKey m) (turnF (kb (clampL l) j) (ladF (clampL l) (ofKey m) (j + 1)))).x1, (stepF (ofKey m) (turnF (kb (clampL l) j) (ladF (clampL l) (ofKey m) (j + 1)))).z1])) rfl rfl rfl rfl
                        obtain ⟨vr8_6, hvr8_6, ar8_6, rfl, hCr8_6⟩ := hI.haveQ 6 _ 44 (.like (IsC 5 RE [(stepF (ofKey m) (turnF (kb (clampL l) j) (ladF (clampL l) (ofKey m) (j + 1)))).x2, (stepF (ofKey m) (turnF (kb (clampL l) j) (ladF (clampL l) (ofKey m) (j + 1)))).z2])) rfl rfl rfl rfl
                        have hupd := hI.upd
                        have ha := hI.act [(39, .agg ar7_5), (40, .agg ar7_6), (41, .agg ar2_1), (42, .tuple #[.agg ar8_3, .agg br8_3]), (38, .tuple #[.agg ar8_4, .agg br8_4]), (43, .agg ar8_5), (44, .agg ar8_6)] (by simp [hvr8_0, hvr8_1, hvr8_2, hvr8_3, hvr8_4, hvr8_5, hvr8_6]) (by kernel_rfl)
                        clear hI hvr8_0 hvr8_1 hvr8_2 hvr8_3 hvr8_4 hvr8_5 hvr8_6
                        subst ha
                        simp only [List.foldl_cons, List.foldl_nil, List.setIfInBounds_toArray, List.set_cons_zero, List.set_cons_succ]
                        have Bxr0y0_8 := Lib.hid (hupd.blk (show Blk ws7_1 br0_0 23 (numsA .u8 (clampL l)) from Bxr0y0_s7_1.out) (fun h => h))
                        have Bxr0y1_8 := Lib.hid (hupd.blk (show Blk ws7_1 br0_1 23 (numsA .u8 m) from Bxr0y1_s7_1.out) (fun h => h))
                        have Bxr0y2_8 := Lib.hid (hupd.blk (show Blk ws7_1 br0_2 23 (numsA .u8 zeroKL) from Bxr0y2_s7_1.out) (fun h => h))
                        have Bxr2y2_8 := Lib.hid (hupd.blk (show Blk ws7_1 br2_2 39 ar2_1 from Bxr2y2_s7_1.out) (fun h => h))
                        have Bxr3y4_8 := Lib.hid (hupd.blk (show Blk ws7_1 cr3_6 72 ar7_5 from Bxr3y4_s7_1.out) (fun h => h))
                        have Bxr3y5_8 := Lib.hid (hupd.blk (show Blk ws7_1 cr3_7 72 ar7_6 from Bxr3y5_s7_1.out) (fun h => h))
                        have HU8 := Lib.hid (HU7_1.out.trans hupd)
                        clear hupd
                        refine wpOps_storeQ 7 rfl rfl rfl 72 (.tmp 6) (.tmp 43) rfl cr3_6 0 10 rfl ar8_5 rfl 72 ar7_5 Bxr3y4_8.out szRatio hCr8_5.size (by rw [hCr7_5.size]; exact Nat.le_of_ble_eq_true rfl) hCr8_5.one' ?_
                        intro ws8_0 hs8_0 hus8_0
                        rw [splice_all _ _ 10 hCr7_5.size hCr8_5.size] at hs8_0
                        have Bxr0y0_s8_0 := Lib.hid (hus8_0.blk Bxr0y0_8.out (fun e => hner3_4_Bxr0y0_s2_0.out e.symm))
                        have Bxr0y1_s8_0 := Lib.hid (hus8_0.blk Bxr0y1_8.out (fun e => hner3_4_Bxr0y1_s2_0.out e.symm))
                        have Bxr0y2_s8_0 := Lib.hid (hus8_0.blk Bxr0y2_8.out (fun e => hner3_4_Bxr0y2_s2_0.out e.symm))
                        have Bxr2y2_s8_0 := Lib.hid (hus8_0.blk Bxr2y2_8.out (fun e => hner3_4_Bxr2y2_s2_0.out e.symm))
                        have Bxr3y5_s8_0 := Lib.hid (hus8_0.blk Bxr3y5_8.out (fun e => hner3_4_r3_5.out e.symm))
                        have Bxr3y4_s8_0 := Lib.hid hs8_0
                        have HU8_0 := Lib.hid (HU8.out.step hus8_0 (fun i hi h => absurd hi (Nat.not_lt.2 (h.symm ▸ hger3_4.out))))
                        clear hs8_0 hus8_0
                        refine wpOps_storeQ 8 rfl rfl rfl 72 (.tmp 7) (.tmp 44) rfl cr3_7 0 10 rfl ar8_6 rfl 72 ar7_6 Bxr3y5_s8_0.out szRatio hCr8_6.size (by rw [hCr7_6.size]; exact Nat.le_of_ble_eq_true rfl) hCr8_6.one' ?_
                        intro ws8_1 hs8_1 hus8_1
                        rw [splice_all _ _ 10 hCr7_6.size hCr8_6.size] at hs8_1
                        have Bxr0y0_s8_1 := Lib.hid (hus8_1.blk Bxr0y0_s8_0.out (fun e => hner3_5_Bxr0y0_s2_0.out e.symm))
                        have Bxr0y1_s8_1 := Lib.hid (hus8_1.blk Bxr0y1_s8_0.out (fun e => hner3_5_Bxr0y1_s2_0.out e.symm))
                        have Bxr0y2_s8_1 := Lib.hid (hus8_1.blk Bxr0y2_s8_0.out (fun e => hner3_5_Bxr0y2_s2_0.out e.symm))
                        have Bxr2y2_s8_1 := Lib.hid (hus8_1.blk Bxr2y2_s8_0.out (fun e => hner3_5_Bxr2y2_s2_0.out e.symm))
                        have Bxr3y4_s8_1 := Lib.hid (hus8_1.blk Bxr3y4_s8_0.out (fun e => hner3_4_r3_5.out e))
                        have Bxr3y5_s8_1 := Lib.hid hs8_1
                        have HU8_1 := Lib.hid (HU8_0.out.step hus8_1 (fun i hi h => absurd hi (Nat.not_lt.2 (h.symm ▸ hger3_5.out))))
                        clear hs8_1 hus8_1
                        refine wpOps_nil ?_
                        refine hK12 _ _ ?_
                        clear hK12
                        refine wp_region_qS 7 #[true, true, true, true, true, true, true, false, false] [7, 8] ([.val (.bool (kb (clampL l) j)), .val (.agg ar8_5), .val (.agg ar8_6), .like (IsC2 5 RE [(turnF (kb (clampL l) j) (stepF (ofKey m) (turnF (kb (clampL l) j) (ladF (clampL l) (ofKey m) (j + 1))))).x1, (turnF (kb (clampL l) j) (stepF (ofKey m) (turnF (kb (clampL l) j) (ladF (clampL l) (ofKey m) (j + 1))))).z1] [(turnF (kb (clampL l) j) (stepF (ofKey m) (turnF (kb (clampL l) j) (ladF (clampL l) (ofKey m) (j + 1))))).x2, (turnF (kb (clampL l) j) (stepF (ofKey m) (turnF (kb (clampL l) j) (ladF (clampL l) (ofKey m) (j + 1))))).z2]), .like (IsC2 5 RE [(turnF (kb (clampL l) j) (stepF (ofKey m) (turnF (kb (clampL l) j) (ladF (clampL l) (ofKey m) (j + 1))))).x1, (turnF (kb (clampL l) j) (stepF (ofKey m) (turnF (kb (clampL l) j) (ladF (clampL l) (ofKey m) (j + 1))))).z1] [(turnF (kb (clampL l) j) (stepF (ofKey m) (turnF (kb (clampL l) j) (ladF (clampL l) (ofKey m) (j + 1))))).x2, (turnF (kb (clampL l) j) (stepF (ofKey m) (turnF (kb (clampL l) j) (ladF (clampL l) (ofKey m) (j + 1))))).z2]), .like (IsC 5 RE [(turnF (kb (clampL l) j) (stepF (ofKey m) (turnF (kb (clampL l) j) (ladF (clampL l) (ofKey m) (j + 1))))).x1, (turnF (kb (clampL l) j) (stepF (ofKey m) (turnF (kb (clampL l) j) (ladF (clampL l) (ofKey m) (j + 1))))).z1]), .like (IsC 5 RE [(turnF (kb (clampL l) j) (stepF (ofKey m) (turnF (kb (clampL l) j) (ladF (clampL l) (ofKey m) (j + 1))))).x2, (turnF (kb (clampL l) j) (stepF (ofKey m) (turnF (kb (clampL l) j) (ladF (clampL l) (ofKey m) (j + 1))))).z2]), .val undef, .val undef] : List SQ) (by kernel_rfl) (by kernel_rfl) (by kernel_rfl) ?_ ?_
                        · intro i o listed an wn ho hls hst hun hdep hI hpre K' hK'
                          have hi : i = 0 ∨ i = 1 ∨ i = 2 ∨ i = 3 ∨ i = 4 ∨ i = 5 ∨ i = 6 ∨ False := slot_cases (l := [0, 1, 2, 3, 4, 5, 6]) rfl ho hst
                          rcases hi with rfl | rfl | rfl | rfl | rfl | rfl | rfl | hi
                          · obtain rfl := Option.some.inj ho
                            have hvp : an.eval (.tmp 9) = .bool (kb (clampL l) j) := hI.oldQ (by kernel_rfl) rfl
                            exact hI.pureQ (by kernel_rfl) hls rfl rfl rfl (.bool (kb (clampL l) j)) (run_moveQ (.inl rfl) hvp wn) (.val (.bool (kb (clampL l) j))) rfl rfl rfl hK'
                          · obtain rfl := Option.some.inj ho
                            have hvp : an.eval (.tmp 6) = ptrTo cr3_6 := hI.oldQ (by kernel_rfl) rfl
                            exact hI.pureQ (by kernel_rfl) hls rfl rfl rfl _ (run_loadQ rfl hvp wn (hI.upd.blk (show Blk ws8_1 cr3_6 72 ar8_5 from Bxr3y4_s8_1.out) (fun h => h)) Tryd.underlying72 rfl szRatio (by rw [hCr8_5.size]; exact Nat.le_of_ble_eq_true rfl)) (.val (.agg ar8_5)) rfl (congrArg Value.agg (extract_all _ 10 hCr8_5.size)) rfl hK'
                          · obtain rfl := Option.some.inj ho
                            have hvp : an.eval (.tmp 7) = ptrTo cr3_7 := hI.oldQ (by kernel_rfl) rfl
                            exact hI.pureQ (by kernel_rfl) hls rfl rfl rfl _ (run_loadQ rfl hvp wn (hI.upd.blk (show Blk ws8_1 cr3_7 72 ar8_6 from Bxr3y5_s8_1.out) (fun h => h)) Tryd.underlying72 rfl szRatio (by rw [hCr8_6.size]; exact Nat.le_of_ble_eq_true rfl)) (.val (.agg ar8_6)) rfl (congrArg Value.agg (extract_all _ 10 hCr8_6.size)) rfl hK'
                          · obtain rfl := Option.some.inj ho
                            obtain ⟨vp, hvp, hsp⟩ := hI.haveQ 0 _ 46 (.val (.bool (kb (clampL l) j))) rfl rfl rfl (hdep ⟨0, .data⟩ (by simp) rfl)
                            obtain rfl := hsp
                            obtain ⟨vq, hvq, hsq⟩ := hI.haveQ 1 _ 47 (.val (.agg ar8_5)) rfl rfl rfl (hdep ⟨1, .data⟩ (by simp) rfl)
                            obtain rfl := hsq
                            obtain ⟨vr, hvr, hsr⟩ := hI.haveQ 2 _ 48 (.val (.agg ar8_6)) rfl rfl rfl (hdep ⟨2, .data⟩ (by simp) rfl)
                            obtain rfl := hsr
                            exact hI.callQ (by kernel_rfl) hls rfl rfl rfl 50 #[.tmp 46, .tmp 47, .tmp 48] _ rfl #[.bool (kb (clampL l) j), .agg ar8_5, .agg ar8_6] (by simp [eval_of hvp, eval_of hvq, eval_of hvr]) (run_enter Tryd.func50 (by kernel_rfl) (by kernel_rfl)) (.like (IsC2 5 RE [(turnF (kb (clampL l) j) (stepF (ofKey m) (turnF (kb (clampL l) j) (ladF (clampL l) (ofKey m) (j + 1))))).x1, (turnF (kb (clampL l) j) (stepF (ofKey m) (turnF (kb (clampL l) j) (ladF (clampL l) (ofKey m) (j + 1))))).z1] [(turnF (kb (clampL l) j) (stepF (ofKey m) (turnF (kb (clampL l) j) (ladF (clampL l) (ofKey m) (j + 1))))).x2, (turnF (kb (clampL l) j) (stepF (ofKey m) (turnF (kb (clampL l) j) (ladF (clampL l) (ofKey m) (j + 1))))).z2])) rfl rfl ((turnedL _ hCr8_5 hCr8_6).mono fun _ _ h => h.sq) hK'
                          · obtain rfl := Option.some.inj ho
                            obtain ⟨vp, hvp, ap, bp, rfl, hCp, hDp⟩ := hI.haveQ 3 _ 49 (.like (IsC2 5 RE [(turnF (kb (clampL l) j) (stepF (ofKey m) (turnF (kb (clampL l) j) (ladF (clampL l) (ofKey m) (j + 1))))).x1, (turnF (kb (clampL l) j) (stepF (ofKey m) (turnF (kb (clampL l) j) (ladF (clampL l) (ofKey m) (j + 1))))).z1] [(turnF (kb (clampL l) j) (stepF (ofKey m) (turnF (kb (clampL l) j) (ladF (clampL l) (ofKey m) (j + 1))))).x2, (turnF (kb (clampL l) j) (stepF (ofKey m) (turnF (kb (clampL l) j) (ladF (clampL l) (ofKey m) (j + 1))))).z2])) rfl rfl rfl (hdep ⟨3, .data⟩ (by simp) rfl)
                            exact hI.pureQ (by kernel_rfl) hls rfl rfl rfl _ (run_moveQ (.inl rfl) (eval_of hvp) wn) (.like (IsC2 5 RE [(turnF (kb (clampL l) j) (stepF (ofKey m) (turnF (kb (clampL l) j) (ladF (clampL l) (ofKey m) (j + 1))))).x1, (turnF (kb (clampL l) j) (stepF (ofKey m) (turnF (kb (clampL l) j) (ladF (clampL l) (ofKey m) (j + 1))))).z1] [(turnF (kb (clampL l) j) (stepF (ofKey m) (turnF (kb (clampL l) j) (ladF (clampL l) (ofKey m) (j + 1))))).x2, (turnF (kb (clampL l) j) (stepF (ofKey m) (turnF (kb (clampL l) j) (ladF (clampL l) (ofKey m) (j + 1))))).z2])) rfl ⟨_, _, rfl, hCp, hDp⟩ rfl hK'
                          · obtain rfl := Option.some.inj ho
                            obtain ⟨vp, hvp, ap, bp, rfl, hCp, hDp⟩ := hI.haveQ 4 _ 45 (.like (IsC2 5 RE [(turnF (kb (clampL l) j) (stepF (ofKey m) (turnF (kb (clampL l) j) (ladF (clampL l) (ofKey m) (j + 1))))).x1, (turnF (kb (clampL l) j) (stepF (ofKey m) (turnF (kb (clampL l) j) (ladF (clampL l) (ofKey m) (j + 1))))).z1] [(turnF (kb (clampL l) j) (stepF (ofKey m) (turnF (kb (clampL l) j) (ladF (clampL l) (ofKey m) (j + 1))))).x2, (turnF (kb (clampL l) j) (stepF (ofKey m) (turnF (kb (clampL l) j) (ladF (clampL l) (ofKey m) (j + 1))))).z2])) rfl rfl rfl (hdep ⟨4, .data⟩ (by simp) rfl)
                            exact hI.pureQ (by kernel_rfl) hls rfl rfl rfl _ (run_extractQ rfl (eval_of hvp) rfl wn) (.like (IsC 5 RE [(turnF (kb (clampL l) j) (stepF (ofKey m) (turnF (kb (clampL l) j) (ladF (clampL l) (ofKey m) (j + 1))))).x1, (turnF (kb (clampL l) j) (stepF (ofKey m) (turnF (kb (clampL l) j) (ladF (clampL l) (ofKey m) (j + 1))))).z1])) rfl ⟨_, rfl, hCp⟩ rfl hK'
                          · obtain rfl := Option.some.inj ho
                            obtain ⟨vp, hvp, ap, bp, rfl, hCp, hDp⟩ := hI.haveQ 4 _ 45 (.like (IsC2 5 RE [(turnF (kb (clampL l) j) (stepF (ofKey m) (turnF (kb (clampL l) j) (ladF (clampL l) (ofKey m) (j + 1))))).x1, (turnF (kb (clampL l) j) (stepF (ofKey m) (turnF (kb (clampL l) j) (ladF (clampL l) (ofKey m) (j + 1))))).z1] [(turnF (kb (clampL l) j) (stepF (ofKey m) (turnF (kb (clampL l) j) (ladF (clampL l) (ofKey m) (j + 1))))).x2, (turnF (kb (clampL l) j) (stepF (ofKey m) (turnF (kb (clampL l) j) (ladF (clampL l) (ofKey m) (j + 1))))).z2])) rfl rfl rfl (hdep ⟨4, .data⟩ (by simp) rfl)
                            exact hI.pureQ (by kernel_rfl) hls rfl rfl rfl _ (run_extractQ rfl (eval_of hvp) rfl wn) (.like (IsC 5 RE [(turnF (kb (clampL l) j) (stepF (ofKey m) (turnF (kb (clampL l) j) (ladF (clampL l) (ofKey m) (j + 1))))).x2, (turnF (kb (clampL l) j) (stepF (ofKey m) (turnF (kb (clampL l) j) (ladF (clampL l) (ofKey m) (j + 1))))).z2])) rfl ⟨_, rfl, hDp⟩ rfl hK'
                          · exact hi.elim
                        · intro an w10 hI
                          obtain ⟨vr9_0, hvr9_0, hsr9_0⟩ := hI.haveQ 0 _ 46 (.val (.bool (kb (clampL l) j))) rfl rfl rfl rfl
                          obtain rfl := hsr9_0
                          obtain ⟨vr9_1, hvr9_1, hsr9_1⟩ := hI.haveQ 1 _ 47 (.val (.agg ar8_5)) rfl rfl rfl rfl
                          obtain rfl := hsr9_1
                          obtain ⟨vr9_2, hvr9_2, hsr9_2⟩ := hI.haveQ 2 _ 48 (.val (.agg ar8_6)) rfl rfl rfl rfl
                          obtain rfl := hsr9_2
                          obtain ⟨vr9_3, hvr9_3, ar9_3, br9_3, rfl, hCr9_3, hDr9_3⟩ := hI.haveQ 3 _ 49 (.like (IsC2 5 RE [(turnF (kb (clampL l) j) (stepF (ofKey m) (turnF (kb (clampL l) j) (ladF (clampL l) (ofKey m) (j + 1))))).x1, (turnF (kb (clampL l) j) (stepF (ofKey m) (turnF (kb (clampL l) j) (ladF (clampL l) (ofKey m) (j + 1))))).z1] [(turnF (kb (clampL l) j) (stepF (ofKey m) (turnF (kb (clampL l) j) (ladF (clampL l) (ofKey m) (j + 1))))).x2, (turnF (kb (clampL l) j) (stepF (ofKey m) (turnF (kb (clampL l) j) (ladF (clampL l) (ofKey m) (j + 1))))).z2])) rfl rfl rfl rfl
                          obtain ⟨vr9_4, hvr9_4, ar9_4, br9_4, rfl, hCr9_4, hDr9_4⟩ := hI.haveQ 4 _ 45 (.like (IsC2 5 RE [(turnF (kb (clampL l) j) (stepF (ofKey m) (turnF (kb (clampL l) j) (ladF (clampL l) (ofKey m) (j + 1))))).x1, (turnF (kb (clampL l) j) (stepF (ofKey m) (turnF (kb (clampL l) j) (ladF (clampL l) (ofKey m) (j + 1))))).z1] [(turnF (kb (clampL l) j) (stepF (ofKey m) (turnF (kb (clampL l) j) (ladF (clampL l) (ofKey m) (j + 1))))).x2, (turnF (kb (clampL l) j) (stepF (ofKey m) (turnF (kb (clampL l) j) (ladF (clampL l) (ofKey m) (j + 1))))).z2])) rfl rfl rfl rfl
                          obtain ⟨vr9_5, hvr9_5, ar9_5, rfl, hCr9_5⟩ := hI.haveQ 5 _ 50 (.like (IsC 5 RE [(turnF (kb (clampL l) j) (stepF (ofKey m) (turnF (kb (clampL l) j) (ladF (clampL l) (ofKey m) (j + 1))))).x1, (turnF (kb (clampL l) j) (stepF (ofKey m) (turnF (kb (clampL l) j) (ladF (clampL l) (ofKey m) (j + 1))))).z1])) rfl rfl rfl rfl
                          obtain ⟨vr9_6, hvr9_6, ar9_6, rfl, hCr9_6⟩ := hI.haveQ 6 _ 51 (.like (IsC 5 RE [(turnF (kb (clampL l) j) (stepF (ofKey m) (turnF (kb (clampL l) j) (ladF (clampL l) (ofKey m) (j + 1))))).x2, (turnF (kb (clampL l) j) (stepF (ofKey m) (turnF (kb (clampL l) j) (ladF (clampL l) (ofKey m) (j + 1))))).z2])) rfl rfl rfl rfl
                          have hupd := hI.upd
                          have ha := hI.act [(46, .bool (kb (clampL l) j)), (47, .agg ar8_5), (48, .agg ar8_6), (49, .tuple #[.agg ar9_3, .agg br9_3]), (45, .tuple #[.agg ar9_4, .agg br9_4]), (50, .agg ar9_5), (51, .agg ar9_6)] (by simp [hvr9_0, hvr9_1, hvr9_2, hvr9_3, hvr9_4, hvr9_5, hvr9_6]) (by kernel_rfl)
                          clear hI hvr9_0 hvr9_1 hvr9_2 hvr9_3 hvr9_4 hvr9_5 hvr9_6
                          subst ha
                          simp only [List.foldl_cons, List.foldl_nil, List.setIfInBounds_toArray, List.set_cons_zero, List.set_cons_succ]
                          have Bxr0y0_9 := Lib.hid (hupd.blk (show Blk ws8_1 br0_0 23 (numsA .u8 (clampL l)) from Bxr0y0_s8_1.out) (fun h => h))
                          have Bxr0y1_9 := Lib.hid (hupd.blk (show Blk ws8_1 br0_1 23 (numsA .u8 m) from Bxr0y1_s8_1.out) (fun h => h))
                          have Bxr0y2_9 := Lib.hid (hupd.blk (show Blk ws8_1 br0_2 23 (numsA .u8 zeroKL) from Bxr0y2_s8_1.out) (fun h => h))
                          have Bxr2y2_9 := Lib.hid (hupd.blk (show Blk ws8_1 br2_2 39 ar2_1 from Bxr2y2_s8_1.out) (fun h => h))
                          have Bxr3y4_9 := Lib.hid (hupd.blk (show Blk ws8_1 cr3_6 72 ar8_5 from Bxr3y4_s8_1.out) (fun h => h))
                          have Bxr3y5_9 := Lib.hid (hupd.blk (show Blk ws8_1 cr3_7 72 ar8_6 from Bxr3y5_s8_1.out) (fun h => h))
                          have HU9 := Lib.hid (HU8_1.out.trans hupd)
                          clear hupd
                          refine wpOps_storeQ 7 rfl rfl rfl 72 (.tmp 6) (.tmp 50) rfl cr3_6 0 10 rfl ar9_5 rfl 72 ar8_5 Bxr3y4_9.out szRatio hCr9_5.size (by rw [hCr8_5.size]; exact Nat.le_of_ble_eq_true rfl) hCr9_5.one' ?_
                          intro ws9_0 hs9_0 hus9_0
                          rw [splice_all _ _ 10 hCr8_5.size hCr9_5.size] at hs9_0
                          have Bxr0y0_s9_0 := Lib.hid (hus9_0.blk Bxr0y0_9.out (fun e => hner3_4_Bxr0y0_s2_0.out e.symm))
                          have Bxr0y1_s9_0 := Lib.hid (hus9_0.blk Bxr0y1_9.out (fun e => hner3_4_Bxr0y1_s2_0.out e.symm))
                          have Bxr0y2_s9_0 := Lib.hid (hus9_0.blk Bxr0y2_9.out (fun e => hner3_4_Bxr0y2_s2_0.out e.symm))
                          have Bxr2y2_s9_0 := Lib.hid (hus9_0.blk Bxr2y2_9.out (fun e => hner3_4_Bxr2y2_s2_0.out e.symm))
                          have Bxr3y5_s9_0 := Lib.hid (hus9_0.blk Bxr3y5_9.out (fun e => hner3_4_r3_5.out e.symm))
                          have Bxr3y4_s9_0 := Lib.hid hs9_0
                          have HU9_0 := Lib.hid (HU9.out.step hus9_0 (fun i hi h => absurd hi (Nat.not_lt.2 (h.symm ▸ hger3_4.out))))
                          clear hs9_0 hus9_0
                          refine wpOps_storeQ 8 rfl rfl rfl 72 (.tmp 7) (.tmp 51) rfl cr3_7 0 10 rfl ar9_6 rfl 72 ar8_6 Bxr3y5_s9_0.out szRatio hCr9_6.size (by rw [hCr8_6.size]; exact Nat.le_of_ble_eq_true rfl) hCr9_6.one' ?_
                          intro ws9_1 hs9_1 hus9_1
                          rw [splice_all _ _ 10 hCr8_6.size hCr9_6.size] at hs9_1
                          have Bxr0y0_s9_1 := Lib.hid (hus9_1.blk Bxr0y0_s9_0.out (fun e => hner3_5_Bxr0y0_s2_0.out e.symm))
                          have Bxr0y1_s9_1 := Lib.hid (hus9_1.blk Bxr0y1_s9_0.out (fun e => hner3_5_Bxr0y1_s2_0.out e.symm))
                          have Bxr0y2_s9_1 := Lib.hid (hus9_1.blk Bxr0y2_s9_0.out (fun e => hner3_5_Bxr0y2_s2_0.out e.symm))
                          have Bxr2y2_s9_1 := Lib.hid (hus9_1.blk Bxr2y2_s9_0.out (fun e => hner3_5_Bxr2y2_s2_0.out e.symm))
                          have Bxr3y4_s9_1 := Lib.hid (hus9_1.blk Bxr3y4_s9_0.out (fun e => hner3_4_r3_5.out e))
                          have Bxr3y5_s9_1 := Lib.hid hs9_1
                          have HU9_1 := Lib.hid (HU9_0.out.step hus9_1 (fun i hi h => absurd hi (Nat.not_lt.2 (h.symm ▸ hger3_5.out))))
                          clear hs9_1 hus9_1
                          refine wpOps_nil ?_
                          refine hK9 _ _ ?_
                          clear hK9
                          have hq10_1 : IntKind.wrap .i64 ((j : Int) - 1) = (j : Int) - 1 := IntWalk.i64_in _ (by omega)
                          refine wp_region_qS 3 #[true, true, true] [] ([.val (.int .i64 (j : Int)), .val (.int .i64 ((j : Int) - 1)), .val (.int .i64 ((j : Int) - 1))] : List SQ) (by kernel_rfl) (by kernel_rfl) (by kernel_rfl) ?_ ?_
                          · intro i o listed an wn ho hls hst hun hdep hI hpre K' hK'
                            have hi : i = 0 ∨ i = 1 ∨ i = 2 ∨ False := slot_cases (l := [0, 1, 2]) rfl ho hst
                            rcases hi with rfl | rfl | rfl | hi
                            · obtain rfl := Option.some.inj ho
                              have hvp : an.eval (.tmp 8) = .int .i64 (j : Int) := hI.oldS hpre (by kernel_rfl) rfl
                              exact hI.pureQ (by kernel_rfl) hls rfl rfl rfl (.int .i64 (j : Int)) (run_moveQ (.inl rfl) hvp wn) (.val (.int .i64 (j : Int))) rfl rfl rfl hK'
                            · obtain rfl := Option.some.inj ho
                              obtain ⟨vp, hvp, hsp⟩ := hI.haveQ 0 _ 20 (.val (.int .i64 (j : Int))) rfl rfl rfl (hdep ⟨0, .data⟩ (by simp) rfl)
                              obtain rfl := hsp
                              exact hI.pureQ (by kernel_rfl) hls rfl rfl rfl (.int .i64 ((j : Int) - 1)) (run_sub rfl (eval_of hvp) rfl hq10_1 wn) (.val (.int .i64 ((j : Int) - 1))) rfl rfl rfl hK'
                            · obtain rfl := Option.some.inj ho
                              obtain ⟨vp, hvp, hsp⟩ := hI.haveQ 1 _ 21 (.val (.int .i64 ((j : Int) - 1))) rfl rfl rfl (hdep ⟨1, .data⟩ (by simp) rfl)
                              obtain rfl := hsp
                              exact hI.pureQ (by kernel_rfl) hls rfl rfl rfl (.int .i64 ((j : Int) - 1)) (run_moveQ (.inr rfl) (eval_of hvp) wn) (.val (.int .i64 ((j : Int) - 1))) rfl rfl rfl hK'
                            · exact hi.elim
                          · intro an w11 hI
                            obtain ⟨vr10_0, hvr10_0, hsr10_0⟩ := hI.haveQ 0 _ 20 (.val (.int .i64 (j : Int))) rfl rfl rfl rfl
                            obtain rfl := hsr10_0
                            obtain ⟨vr10_1, hvr10_1, hsr10_1⟩ := hI.haveQ 1 _ 21 (.val (.int .i64 ((j : Int) - 1))) rfl rfl rfl rfl
                            obtain rfl := hsr10_1
                            obtain ⟨vr10_2, hvr10_2, hsr10_2⟩ := hI.haveQ 2 _ 8 (.val (.int .i64 ((j : Int) - 1))) rfl rfl rfl rfl
                            obtain rfl := hsr10_2
                            have hupd := hI.upd
                            have ha := hI.act [(20, .int .i64 (j : Int)), (21, .int .i64 ((j : Int) - 1)), (8, .int .i64 ((j : Int) - 1))] (by simp [hvr10_0, hvr10_1, hvr10_2]) (by kernel_rfl)
                            clear hI hvr10_0 hvr10_1 hvr10_2
                            subst ha
                            simp only [List.foldl_cons, List.foldl_nil, List.setIfInBounds_toArray, List.set_cons_zero, List.set_cons_succ]
                            have Bxr0y0_10 := Lib.hid (hupd.blk (show Blk ws9_1 br0_0 23 (numsA .u8 (clampL l)) from Bxr0y0_s9_1.out) (fun h => h))
                            have Bxr0y1_10 := Lib.hid (hupd.blk (show Blk ws9_1 br0_1 23 (numsA .u8 m) from Bxr0y1_s9_1.out) (fun h => h))
                            have Bxr0y2_10 := Lib.hid (hupd.blk (show Blk ws9_1 br0_2 23 (numsA .u8 zeroKL) from Bxr0y2_s9_1.out) (fun h => h))
                            have Bxr2y2_10 := Lib.hid (hupd.blk (show Blk ws9_1 br2_2 39 ar2_1 from Bxr2y2_s9_1.out) (fun h => h))
                            have Bxr3y4_10 := Lib.hid (hupd.blk (show Blk ws9_1 cr3_6 72 ar9_5 from Bxr3y4_s9_1.out) (fun h => h))
                            have Bxr3y5_10 := Lib.hid (hupd.blk (show Blk ws9_1 cr3_7 72 ar9_6 from Bxr3y5_s9_1.out) (fun h => h))
                            have HU10 := Lib.hid (HU9_1.out.trans hupd)
                            clear hupd
                            refine wpOps_nil ?_
                            exact ⟨⟨j, _, _, _, _, _, _, _, _, _, _, _, _, _, _, _, _, _, _, _, _, _, _, _, _, _, _, _, _, _, _, _, _, _, _, _, _, _, by omega, rfl, HU10.out, Bxr3y4_10.out, hCr9_5.to (by rw [ladF_step (clampL l) (ofKey m) j (by omega)]), Bxr3y5_10.out, hCr9_6.to (by rw [ladF_step (clampL l) (ofKey m) j (by omega)]), Bxr0y0_10.out, Bxr0y1_10.out, Bxr0y2_10.out, Bxr2y2_10.out⟩, by show ((j : Int) - 1 + 1).toNat < ((j : Int) + 1).toNat; omega⟩
              · obtain rfl : k = 0 := by omega
                rw [show ((0 : Nat) : Int) - 1 = -1 by omega]
                clear hlt
                refine wp_seq_k fun K13 hK13 => ?_
                refine wp_seq_k fun K14 hK14 => ?_
                have hq11_1 : decide (((0 : Int) ≤ (-1) : Prop)) = false := decide_eq_false (by omega)
                refine wp_region_qS 2 #[true, true] [] ([.val (.int .i64 (-1)), .val (.bool false)] : List SQ) (by kernel_rfl) (by kernel_rfl) (by kernel_rfl) ?_ ?_
                · intro i o listed an wn ho hls hst hun hdep hI hpre K' hK'
                  have hi : i = 0 ∨ i = 1 ∨ False := slot_cases (l := [0, 1]) rfl ho hst
                  rcases hi with rfl | rfl | hi
                  · obtain rfl := Option.some.inj ho
                    have hvp : an.eval (.tmp 8) = .int .i64 (-1) := hI.oldQ (by kernel_rfl) rfl
                    exact hI.pureQ (by kernel_rfl) hls rfl rfl rfl (.int .i64 (-1)) (run_moveQ (.inl rfl) hvp wn) (.val (.int .i64 (-1))) rfl rfl rfl hK'
                  · obtain rfl := Option.some.inj ho
                    obtain ⟨vp, hvp, hsp⟩ := hI.haveQ 0 _ 18 (.val (.int .i64 (-1))) rfl rfl rfl (hdep ⟨0, .data⟩ (by simp) rfl)
                    obtain rfl := hsp
                    exact hI.pureQ (by kernel_rfl) hls rfl rfl rfl (.bool false) (run_geq rfl (eval_of hvp) rfl hq11_1 wn) (.val (.bool false)) rfl rfl rfl hK'
                  · exact hi.elim
                · intro an w12 hI
                  obtain ⟨vr11_0, hvr11_0, hsr11_0⟩ := hI.haveQ 0 _ 18 (.val (.int .i64 (-1))) rfl rfl rfl rfl
                  obtain rfl := hsr11_0
                  obtain ⟨vr11_1, hvr11_1, hsr11_1⟩ := hI.haveQ 1 _ 19 (.val (.bool false)) rfl rfl rfl rfl
                  obtain rfl := hsr11_1
                  have hupd := hI.upd
                  have ha := hI.act [(18, .int .i64 (-1)), (19, .bool false)] (by simp [hvr11_0, hvr11_1]) (by kernel_rfl)
                  clear hI hvr11_0 hvr11_1
                  subst ha
                  simp only [List.foldl_cons, List.foldl_nil, List.setIfInBounds_toArray, List.set_cons_zero, List.set_cons_succ]
                  have Bxr0y0_11 := Lib.hid (hupd.blk (show Blk wl6 br0_0 23 (numsA .u8 (clampL l)) from Bxr0y0_l6.out) (fun h => h))
                  have Bxr0y1_11 := Lib.hid (hupd.blk (show Blk wl6 br0_1 23 (numsA .u8 m) from Bxr0y1_l6.out) (fun h => h))
                  have Bxr0y2_11 := Lib.hid (hupd.blk (show Blk wl6 br0_2 23 (numsA .u8 zeroKL) from Bxr0y2_l6.out) (fun h => h))
                  have Bxr2y2_11 := Lib.hid (hupd.blk (show Blk wl6 br2_2 39 ar2_1 from Bxr2y2_l6.out) (fun h => h))
                  have Bxr3y4_11 := Lib.hid (hupd.blk (show Blk wl6 cr3_6 72 A6_6 from Bxr3y4_l6.out) (fun h => h))
                  have Bxr3y5_11 := Lib.hid (hupd.blk (show Blk wl6 cr3_7 72 A6_7 from Bxr3y5_l6.out) (fun h => h))
                  have HU11 := Lib.hid (HUl6.out.trans hupd)
                  clear hupd
                  refine wpOps_nil ?_
                  refine hK14 _ _ ?_
                  clear hK14
                  refine wp_cond_false rfl ?_
                  refine wp_exit_then ?_
                  refine hK4 _ _ ?_
                  clear hK4
                  refine wp_seq_k fun K15 hK15 => ?_
                  refine wp_region_qS 3 #[true, true, true, false] [3] ([.val (.agg A6_6), .like (IsC 5 RE [((ladF (clampL l) (ofKey m) 0).x1) * finv ((ladF (clampL l) (ofKey m) 0).z1)]), .val (.agg (numsA .u8 (keyOf (((ladF (clampL l) (ofKey m) 0).x1) * finv ((ladF (clampL l) (ofKey m) 0).z1))))), .val undef] : List SQ) (by kernel_rfl) (by kernel_rfl) (by kernel_rfl) ?_ ?_
                  · intro i o listed an wn ho hls hst hun hdep hI hpre K' hK'
                    have hi : i = 0 ∨ i = 1 ∨ i = 2 ∨ False := slot_cases (l := [0, 1, 2]) rfl ho hst
                    rcases hi with rfl | rfl | rfl | hi
                    · obtain rfl := Option.some.inj ho
                      have hvp : an.eval (.tmp 6) = ptrTo cr3_6 := hI.oldQ (by kernel_rfl) rfl
                      exact hI.pureQ (by kernel_rfl) hls rfl rfl rfl _ (run_loadQ rfl hvp wn (hI.upd.blk (show Blk w12 cr3_6 72 A6_6 from Bxr3y4_11.out) (fun h => h)) Tryd.underlying72 rfl szRatio (by rw [hcl6.size]; exact Nat.le_of_ble_eq_true rfl)) (.val (.agg A6_6)) rfl (congrArg Value.agg (extract_all _ 10 hcl6.size)) rfl hK'
                    · obtain rfl := Option.some.inj ho
                      obtain ⟨vp, hvp, hsp⟩ := hI.haveQ 0 _ 52 (.val (.agg A6_6)) rfl rfl rfl (hdep ⟨0, .data⟩ (by simp) rfl)
                      obtain rfl := hsp
                      exact hI.callQ (by kernel_rfl) hls rfl rfl rfl 52 #[.tmp 52] _ rfl #[.agg A6_6] (by simp [eval_of hvp]) (run_enter Tryd.func52 (by kernel_rfl) (by kernel_rfl)) (.like (IsC 5 RE [((ladF (clampL l) (ofKey m) 0).x1) * finv ((ladF (clampL l) (ofKey m) 0).z1)])) rfl rfl ((dividedL _ hcl6).mono fun _ _ h => h.sq) hK'
                    · obtain rfl := Option.some.inj ho
                      obtain ⟨vp, hvp, ap, rfl, hCp⟩ := hI.haveQ 1 _ 53 (.like (IsC 5 RE [((ladF (clampL l) (ofKey m) 0).x1) * finv ((ladF (clampL l) (ofKey m) 0).z1)])) rfl rfl rfl (hdep ⟨1, .data⟩ (by simp) rfl)
                      exact hI.callQ (by kernel_rfl) hls rfl rfl rfl 48 #[.tmp 53] _ rfl #[.agg ap] (by simp [eval_of hvp]) (run_enter Tryd.func48 (by kernel_rfl) (by kernel_rfl)) (.val (.agg (numsA .u8 (keyOf (((ladF (clampL l) (ofKey m) 0).x1) * finv ((ladF (clampL l) (ofKey m) 0).z1)))))) rfl rfl ((bytesE hCp).mono fun _ _ h => ret_val h) hK'
                    · exact hi.elim
                  · intro an w13 hI
                    obtain ⟨vr12_0, hvr12_0, hsr12_0⟩ := hI.haveQ 0 _ 52 (.val (.agg A6_6)) rfl rfl rfl rfl
                    obtain rfl := hsr12_0
                    obtain ⟨vr12_1, hvr12_1, ar12_1, rfl, hCr12_1⟩ := hI.haveQ 1 _ 53 (.like (IsC 5 RE [((ladF (clampL l) (ofKey m) 0).x1) * finv ((ladF (clampL l) (ofKey m) 0).z1)])) rfl rfl rfl rfl
                    obtain ⟨vr12_2, hvr12_2, hsr12_2⟩ := hI.haveQ 2 _ 54 (.val (.agg (numsA .u8 (keyOf (((ladF (clampL l) (ofKey m) 0).x1) * finv ((ladF (clampL l) (ofKey m) 0).z1)))))) rfl rfl rfl rfl
                    obtain rfl := hsr12_2
                    have hupd := hI.upd
                    have ha := hI.act [(52, .agg A6_6), (53, .agg ar12_1), (54, .agg (numsA .u8 (keyOf (((ladF (clampL l) (ofKey m) 0).x1) * finv ((ladF (clampL l) (ofKey m) 0).z1)))))] (by simp [hvr12_0, hvr12_1, hvr12_2]) (by kernel_rfl)
                    clear hI hvr12_0 hvr12_1 hvr12_2
                    subst ha
                    simp only [List.foldl_cons, List.foldl_nil, List.setIfInBounds_toArray, List.set_cons_zero, List.set_cons_succ]
                    have Bxr0y0_12 := Lib.hid (hupd.blk (show Blk w12 br0_0 23 (numsA .u8 (clampL l)) from Bxr0y0_11.out) (fun h => h))
                    have Bxr0y1_12 := Lib.hid (hupd.blk (show Blk w12 br0_1 23 (numsA .u8 m) from Bxr0y1_11.out) (fun h => h))
                    have Bxr0y2_12 := Lib.hid (hupd.blk (show Blk w12 br0_2 23 (numsA .u8 zeroKL) from Bxr0y2_11.out) (fun h => h))
                    have Bxr2y2_12 := Lib.hid (hupd.blk (show Blk w12 br2_2 39 ar2_1 from Bxr2y2_11.out) (fun h => h))
                    have Bxr3y4_12 := Lib.hid (hupd.blk (show Blk w12 cr3_6 72 A6_6 from Bxr3y4_11.out) (fun h => h))
                    have Bxr3y5_12 := Lib.hid (hupd.blk (show Blk w12 cr3_7 72 A6_7 from Bxr3y5_11.out) (fun h => h))
                    have HU12 := Lib.hid (HU11.out.trans hupd)
                    clear hupd
                    refine wpOps_storeQ 3 rfl rfl rfl 23 (.tmp 4) (.tmp 54) rfl br0_2 0 32 rfl (numsA .u8 (keyOf (((ladF (clampL l) (ofKey m) 0).x1) * finv ((ladF (clampL l) (ofKey m) 0).z1)))) rfl 23 (numsA .u8 zeroKL) Bxr0y2_12.out sizeKey (by rw [numsA_size]; exact keyOf_length _) (by rw [(show (numsA _ _).size = 32 by rw [numsA_size]; exact zeroKL_length)]; exact Nat.le_of_ble_eq_true rfl) (numsA_one _ _) ?_
                    intro ws12_0 hs12_0 hus12_0
                    rw [splice_all _ _ 32 (show (numsA _ _).size = 32 by rw [numsA_size]; exact zeroKL_length) (by rw [numsA_size]; exact keyOf_length _)] at hs12_0
                    have Bxr0y0_s12_0 := Lib.hid (hus12_0.blk Bxr0y0_12.out (fun e => hner0_0_r0_2.out e))
                    have Bxr0y1_s12_0 := Lib.hid (hus12_0.blk Bxr0y1_12.out (fun e => hner0_1_r0_2.out e))
                    have Bxr2y2_s12_0 := Lib.hid (hus12_0.blk Bxr2y2_12.out (fun e => hner2_2_Bxr0y2_s1_0.out e))
                    have Bxr3y4_s12_0 := Lib.hid (hus12_0.blk Bxr3y4_12.out (fun e => hner3_4_Bxr0y2_s2_0.out e))
                    have Bxr3y5_s12_0 := Lib.hid (hus12_0.blk Bxr3y5_12.out (fun e => hner3_5_Bxr0y2_s2_0.out e))
                    have Bxr0y2_s12_0 := Lib.hid hs12_0
                    have HU12_0 := Lib.hid (HU12.out.step hus12_0 (fun i hi h => absurd hi (Nat.not_lt.2 (h.symm ▸ hger0_2.out))))
                    clear hs12_0 hus12_0
                    refine wpOps_nil ?_
                    refine hK15 _ _ ?_
                    clear hK15
                    refine wp_ret ?_
                    try dsimp only [Exit.then]
                    try dsimp only [Exit.inBlock]
                    exact bodyPost_ret (v := .agg (numsA .u8 (keyOf (((ladF (clampL l) (ofKey m) 0).x1) * finv ((ladF (clampL l) (ofKey m) 0).z1))))) (results_cell_row (fn := Tryd.f17) (p := 4) (ty := 23) rfl _ _ br0_2 23 _ (0, 0) _ rfl Bxr0y2_s12_0.out Tryd.underlying23 rfl (by rw [numsA_size, keyOf_length _]; exact sizeKey)) rfl ⟨rfl, HU12_0.out⟩
end Go.Proofs.YtdpafemcpbhlfaaDoor
