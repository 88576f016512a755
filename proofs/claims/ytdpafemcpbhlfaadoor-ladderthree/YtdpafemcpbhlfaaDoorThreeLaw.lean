/-
  The walk of LadderThree.
-/
import Derived.Test.YtdpafemcpbhlfaaDoorAgr
import Derived.Test.YtdpafemcpbhlfaaDoorThreeMath
namespace Go.Proofs.YtdpafemcpbhlfaaDoor
set_option maxRecDepth 100000
open Go.RowKit

set_option maxHeartbeats 4000000 in
theorem ladderThree_any {a b u : List Int} (w : World) (hT : Tw w) (ha : a.length = 32) (da : Digs 256 a) (hb : b.length = 32) (db : Digs 256 b) (hu : u.length = 32) (du : Digs 256 u) :
    Calls Tryd.prog 6 #[.agg (numsA .u8 a), .agg (numsA .u8 b), .agg (numsA .u8 u)] w fun e w' => e = .returned (.bool true) ∧ Upd (fun _ => False) w w' := by
  have HT := Lib.hid hT
  clear hT
  have HU := Lib.hid (Upd.refl (fun _ => False) w)
  have f1 : decide (keyOf (ladV (clampL a) (ofKey (keyOf (ladV (clampL b) (ofKey u))))) = keyOf (ladV (clampL b) (ofKey (keyOf (ladV (clampL a) (ofKey u)))))) = true := decide_eq_true (congrArg keyOf (lad_swap ha da hb db (ofKey u)))
  have f2 : decide (keyOf (ladV (clampL a) (ofKey u)) = keyOf (ladV (clampL a) (ofKey (u.set 31 (bits .xor .u8 (u.getD 31 0) 128))))) = true := decide_eq_true (by rw [ofKey_high hu du])
  have f3 : decide (keyOf (ladV (clampL ((a.set 0 (bits .xor .u8 (a.getD 0 0) 5)).set 31 (bits .xor .u8 ((a.set 0 (bits .xor .u8 (a.getD 0 0) 5)).getD 31 0) 192))) (ofKey u)) = keyOf (ladV (clampL a) (ofKey u))) = true := decide_eq_true (by rw [clampL_more ha da])
  go_enter Tryd.func6, Tryd.ntmps6
  refine wp_seq_k fun K0 hK0 => ?_
  refine wp_region_qS 4 #[true, true, true, true] [] ([.blk ptrTo 23 (fun z => z = numsA .u8 a), .blk ptrTo 23 (fun z => z = numsA .u8 b), .blk ptrTo 23 (fun z => z = numsA .u8 u), .val (.bool false)] : List SQ) (by kernel_rfl) (by kernel_rfl) (by kernel_rfl) ?_ ?_
  · intro i o listed an wn ho hls hst hun hdep hI hpre K' hK'
    have hi : i = 0 ∨ i = 1 ∨ i = 2 ∨ i = 3 ∨ False := slot_cases (l := [0, 1, 2, 3]) rfl ho hst
    rcases hi with rfl | rfl | rfl | rfl | hi
    · obtain rfl := Option.some.inj ho
      have hvp : an.eval (.tmp 0) = .agg (numsA .u8 a) := hI.oldQ (by kernel_rfl) rfl
      exact hI.newQ (by kernel_rfl) hls (Nat.le_refl _) (newsQ_spec (l := [0, 1, 2]) (by kernel_rfl) ⟨⟨_, _, rfl⟩, ⟨_, _, rfl⟩, ⟨_, _, rfl⟩, trivial⟩) rfl rfl rfl 23 _ (fun z => z = numsA .u8 a) (run_boxQ rfl hvp wn) rfl rfl hK'
    · obtain rfl := Option.some.inj ho
      have hvp : an.eval (.tmp 1) = .agg (numsA .u8 b) := hI.oldQ (by kernel_rfl) rfl
      exact hI.newQ (by kernel_rfl) hls (Nat.le_refl _) (newsQ_spec (l := [0, 1, 2]) (by kernel_rfl) ⟨⟨_, _, rfl⟩, ⟨_, _, rfl⟩, ⟨_, _, rfl⟩, trivial⟩) rfl rfl rfl 23 _ (fun z => z = numsA .u8 b) (run_boxQ rfl hvp wn) rfl rfl hK'
    · obtain rfl := Option.some.inj ho
      have hvp : an.eval (.tmp 2) = .agg (numsA .u8 u) := hI.oldQ (by kernel_rfl) rfl
      exact hI.newQ (by kernel_rfl) hls (Nat.le_refl _) (newsQ_spec (l := [0, 1, 2]) (by kernel_rfl) ⟨⟨_, _, rfl⟩, ⟨_, _, rfl⟩, ⟨_, _, rfl⟩, trivial⟩) rfl rfl rfl 23 _ (fun z => z = numsA .u8 u) (run_boxQ rfl hvp wn) rfl rfl hK'
    · obtain rfl := Option.some.inj ho
      exact hI.pureQ (by kernel_rfl) hls rfl rfl rfl (.bool false) (run_moveQ (.inr rfl) (show an.eval (.const (.bool false)) = .bool false from rfl) wn) (.val (.bool false)) rfl rfl rfl hK'
    · exact hi.elim
  · intro an w1 hI
    obtain ⟨vr0_0, hvr0_0, br0_0, zr0_0, rfl, hnr0_0, hbr0_0, hzr0_0⟩ := hI.haveQ 0 _ 3 (.blk ptrTo 23 (fun z => z = numsA .u8 a)) rfl rfl rfl rfl
    rw [hzr0_0] at hbr0_0
    clear hzr0_0
    obtain ⟨vr0_1, hvr0_1, br0_1, zr0_1, rfl, hnr0_1, hbr0_1, hzr0_1⟩ := hI.haveQ 1 _ 4 (.blk ptrTo 23 (fun z => z = numsA .u8 b)) rfl rfl rfl rfl
    rw [hzr0_1] at hbr0_1
    clear hzr0_1
    obtain ⟨vr0_2, hvr0_2, br0_2, zr0_2, rfl, hnr0_2, hbr0_2, hzr0_2⟩ := hI.haveQ 2 _ 5 (.blk ptrTo 23 (fun z => z = numsA .u8 u)) rfl rfl rfl rfl
    rw [hzr0_2] at hbr0_2
    clear hzr0_2
    obtain ⟨vr0_3, hvr0_3, hsr0_3⟩ := hI.haveQ 3 _ 6 (.val (.bool false)) rfl rfl rfl rfl
    obtain rfl := hsr0_3
    have hupd := hI.upd
    have hner0_0_r0_1 := Lib.hid (show br0_0 ≠ br0_1 from fun e => hI.apart 0 1 _ _ 3 4 (by omega) rfl rfl rfl rfl rfl rfl rfl rfl (by rw [hvr0_0, hvr0_1, e]))
    have hner0_0_r0_2 := Lib.hid (show br0_0 ≠ br0_2 from fun e => hI.apart 0 2 _ _ 3 5 (by omega) rfl rfl rfl rfl rfl rfl rfl rfl (by rw [hvr0_0, hvr0_2, e]))
    have hner0_1_r0_2 := Lib.hid (show br0_1 ≠ br0_2 from fun e => hI.apart 1 2 _ _ 4 5 (by omega) rfl rfl rfl rfl rfl rfl rfl rfl (by rw [hvr0_1, hvr0_2, e]))
    have ha := hI.act [(3, ptrTo br0_0), (4, ptrTo br0_1), (5, ptrTo br0_2), (6, .bool false)] (by simp [hvr0_0, hvr0_1, hvr0_2, hvr0_3]) (by kernel_rfl)
    clear hI hvr0_0 hvr0_1 hvr0_2 hvr0_3
    subst ha
    simp only [List.foldl_cons, List.foldl_nil, List.setIfInBounds_toArray, List.set_cons_zero, List.set_cons_succ]
    have hger0_0 := Lib.hid (Nat.le_trans HU.out.size hnr0_0)
    have hger0_1 := Lib.hid (Nat.le_trans HU.out.size hnr0_1)
    have hger0_2 := Lib.hid (Nat.le_trans HU.out.size hnr0_2)
    have Bxr0y0 := Lib.hid hbr0_0
    have Bxr0y1 := Lib.hid hbr0_1
    have Bxr0y2 := Lib.hid hbr0_2
    have HU0 := Lib.hid (HU.out.trans hupd)
    clear hupd
    refine wpOps_nil ?_
    refine hK0 _ _ ?_
    clear hK0
    refine wp_seq_k fun K1 hK1 => ?_
    refine wp_seq_k fun K2 hK2 => ?_
    refine wp_region_qS 2 #[true, true] [] ([.val (.bool true), .val (.bool false)] : List SQ) (by kernel_rfl) (by kernel_rfl) (by kernel_rfl) ?_ ?_
    · intro i o listed an wn ho hls hst hun hdep hI hpre K' hK'
      have hi : i = 0 ∨ i = 1 ∨ False := slot_cases (l := [0, 1]) rfl ho hst
      rcases hi with rfl | rfl | hi
      · obtain rfl := Option.some.inj ho
        exact hI.callQ (by kernel_rfl) hls rfl rfl rfl 16 #[] _ rfl #[] (by simp) (run_enter Tryd.func16 (by kernel_rfl) (by kernel_rfl)) (.val (.bool true)) rfl rfl ((agreesL _ (HT.out.upd (HU0.out.trans hI.upd))).mono fun _ _ h => ret_val h) hK'
      · obtain rfl := Option.some.inj ho
        obtain ⟨vp, hvp, hsp⟩ := hI.haveQ 0 _ 9 (.val (.bool true)) rfl rfl rfl (hdep ⟨0, .data⟩ (by simp) rfl)
        obtain rfl := hsp
        exact hI.pureQ (by kernel_rfl) hls rfl rfl rfl (.bool false) (run_not rfl (eval_of hvp) wn) (.val (.bool false)) rfl rfl rfl hK'
      · exact hi.elim
    · intro an w2 hI
      obtain ⟨vr1_0, hvr1_0, hsr1_0⟩ := hI.haveQ 0 _ 9 (.val (.bool true)) rfl rfl rfl rfl
      obtain rfl := hsr1_0
      obtain ⟨vr1_1, hvr1_1, hsr1_1⟩ := hI.haveQ 1 _ 10 (.val (.bool false)) rfl rfl rfl rfl
      obtain rfl := hsr1_1
      have hupd := hI.upd
      have ha := hI.act [(9, .bool true), (10, .bool false)] (by simp [hvr1_0, hvr1_1]) (by kernel_rfl)
      clear hI hvr1_0 hvr1_1
      subst ha
      simp only [List.foldl_cons, List.foldl_nil, List.setIfInBounds_toArray, List.set_cons_zero, List.set_cons_succ]
      have Bxr0y0_1 := Lib.hid (hupd.blk (show Blk w1 br0_0 23 (numsA .u8 a) from Bxr0y0.out) (fun h => h))
      have Bxr0y1_1 := Lib.hid (hupd.blk (show Blk w1 br0_1 23 (numsA .u8 b) from Bxr0y1.out) (fun h => h))
      have Bxr0y2_1 := Lib.hid (hupd.blk (show Blk w1 br0_2 23 (numsA .u8 u) from Bxr0y2.out) (fun h => h))
      have HU1 := Lib.hid (HU0.out.trans hupd)
      clear hupd
      refine wpOps_nil ?_
      refine hK2 _ _ ?_
      clear hK2
      refine wp_cond_false rfl ?_
      refine wp_skip ?_
      refine hK1 _ _ ?_
      clear hK1
      refine wp_seq_k fun K3 hK3 => ?_
      refine wp_region_qS 2 #[true, true, false] [2] ([.val (.agg (numsA .u8 u)), .blk ptrTo 23 (fun z => z = numsA .u8 zeroKL), .val undef] : List SQ) (by kernel_rfl) (by kernel_rfl) (by kernel_rfl) ?_ ?_
      · intro i o listed an wn ho hls hst hun hdep hI hpre K' hK'
        have hi : i = 0 ∨ i = 1 ∨ False := slot_cases (l := [0, 1]) rfl ho hst
        rcases hi with rfl | rfl | hi
        · obtain rfl := Option.some.inj ho
          have hvp : an.eval (.tmp 5) = ptrTo br0_2 := hI.oldQ (by kernel_rfl) rfl
          exact hI.pureQ (by kernel_rfl) hls rfl rfl rfl _ (run_loadQ rfl hvp wn (hI.upd.blk (show Blk w2 br0_2 23 (numsA .u8 u) from Bxr0y2_1.out) (fun h => h)) Tryd.underlying23 rfl sizeKey (by rw [numsA_size, hu]; omega)) (.val (.agg (numsA .u8 u))) rfl (congrArg Value.agg (extract_all _ 32 (by rw [numsA_size]; exact hu))) rfl hK'
        · obtain rfl := Option.some.inj ho
          exact hI.newQ (by kernel_rfl) hls (Nat.le_refl _) (newsQ_spec (l := [1]) (by kernel_rfl) ⟨⟨_, _, rfl⟩, trivial⟩) rfl rfl rfl 23 _ (fun z => z = numsA .u8 zeroKL) (run_allocQ rfl zeroK_run wn) rfl rfl hK'
        · exact hi.elim
      · intro an w3 hI
        obtain ⟨vr2_0, hvr2_0, hsr2_0⟩ := hI.haveQ 0 _ 11 (.val (.agg (numsA .u8 u))) rfl rfl rfl rfl
        obtain rfl := hsr2_0
        obtain ⟨vr2_1, hvr2_1, br2_1, zr2_1, rfl, hnr2_1, hbr2_1, hzr2_1⟩ := hI.haveQ 1 _ 7 (.blk ptrTo 23 (fun z => z = numsA .u8 zeroKL)) rfl rfl rfl rfl
        rw [hzr2_1] at hbr2_1
        clear hzr2_1
        have hupd := hI.upd
        have ha := hI.act [(11, .agg (numsA .u8 u)), (7, ptrTo br2_1)] (by simp [hvr2_0, hvr2_1]) (by kernel_rfl)
        clear hI hvr2_0 hvr2_1
        subst ha
        simp only [List.foldl_cons, List.foldl_nil, List.setIfInBounds_toArray, List.set_cons_zero, List.set_cons_succ]
        have hner2_1_Bxr0y0_1 := Lib.hid (show br2_1 ≠ br0_0 from Nat.ne_of_gt (Nat.lt_of_lt_of_le Bxr0y0_1.out.lt hnr2_1))
        have hner2_1_Bxr0y1_1 := Lib.hid (show br2_1 ≠ br0_1 from Nat.ne_of_gt (Nat.lt_of_lt_of_le Bxr0y1_1.out.lt hnr2_1))
        have hner2_1_Bxr0y2_1 := Lib.hid (show br2_1 ≠ br0_2 from Nat.ne_of_gt (Nat.lt_of_lt_of_le Bxr0y2_1.out.lt hnr2_1))
        have hger2_1 := Lib.hid (Nat.le_trans HU1.out.size hnr2_1)
        have Bxr0y0_2 := Lib.hid (hupd.blk (show Blk w2 br0_0 23 (numsA .u8 a) from Bxr0y0_1.out) (fun h => h))
        have Bxr0y1_2 := Lib.hid (hupd.blk (show Blk w2 br0_1 23 (numsA .u8 b) from Bxr0y1_1.out) (fun h => h))
        have Bxr0y2_2 := Lib.hid (hupd.blk (show Blk w2 br0_2 23 (numsA .u8 u) from Bxr0y2_1.out) (fun h => h))
        have Bxr2y1 := Lib.hid hbr2_1
        have HU2 := Lib.hid (HU1.out.trans hupd)
        clear hupd
        refine wpOps_storeQ 2 rfl rfl rfl 23 (.tmp 7) (.tmp 11) rfl br2_1 0 32 rfl (numsA .u8 u) rfl 23 (numsA .u8 zeroKL) Bxr2y1.out sizeKey (by rw [numsA_size]; exact hu) (by rw [(show (numsA _ _).size = 32 by rw [numsA_size]; exact zeroKL_length)]; exact Nat.le_of_ble_eq_true rfl) (numsA_one _ _) ?_
        intro ws2_0 hs2_0 hus2_0
        rw [splice_all _ _ 32 (show (numsA _ _).size = 32 by rw [numsA_size]; exact zeroKL_length) (by rw [numsA_size]; exact hu)] at hs2_0
        have Bxr0y0_s2_0 := Lib.hid (hus2_0.blk Bxr0y0_2.out (fun e => hner2_1_Bxr0y0_1.out e.symm))
        have Bxr0y1_s2_0 := Lib.hid (hus2_0.blk Bxr0y1_2.out (fun e => hner2_1_Bxr0y1_1.out e.symm))
        have Bxr0y2_s2_0 := Lib.hid (hus2_0.blk Bxr0y2_2.out (fun e => hner2_1_Bxr0y2_1.out e.symm))
        have Bxr2y1_s2_0 := Lib.hid hs2_0
        have HU2_0 := Lib.hid (HU2.out.step hus2_0 (fun i hi h => absurd hi (Nat.not_lt.2 (h.symm ▸ hger2_1.out))))
        clear hs2_0 hus2_0
        refine wpOps_nil ?_
        refine hK3 _ _ ?_
        clear hK3
        refine wp_seq_k fun K4 hK4 => ?_
        refine wp_region_qS 4 #[true, true, true, true, false] [4] ([.val (.pointer (some ⟨br2_1, 0 + 31, none⟩)), .val (.int .u8 (u.getD 31 0)), .val (.int .u8 (bits .xor .u8 (u.getD 31 0) 128)), .val (.pointer (some ⟨br2_1, 0 + 31, none⟩)), .val undef] : List SQ) (by kernel_rfl) (by kernel_rfl) (by kernel_rfl) ?_ ?_
        · intro i o listed an wn ho hls hst hun hdep hI hpre K' hK'
          have hi : i = 0 ∨ i = 1 ∨ i = 2 ∨ i = 3 ∨ False := slot_cases (l := [0, 1, 2, 3]) rfl ho hst
          rcases hi with rfl | rfl | rfl | rfl | hi
          · obtain rfl := Option.some.inj ho
            have hvp : an.eval (.tmp 7) = ptrTo br2_1 := hI.oldQ (by kernel_rfl) rfl
            exact hI.pureQ (by kernel_rfl) hls rfl rfl rfl (.pointer (some ⟨br2_1, 0 + 31, none⟩)) (run_adr (off := 0) (i := 31) rfl Tryd.underlying23 size5 hvp rfl (by omega) wn) (.val (.pointer (some ⟨br2_1, 0 + 31, none⟩))) rfl rfl rfl hK'
          · obtain rfl := Option.some.inj ho
            obtain ⟨vp, hvp, hsp⟩ := hI.haveQ 0 _ 12 (.val (.pointer (some ⟨br2_1, 0 + 31, none⟩))) rfl rfl rfl (hdep ⟨0, .data⟩ (by simp) rfl)
            obtain rfl := hsp
            exact hI.pureQ (by kernel_rfl) hls rfl rfl rfl (.int .u8 (u.getD 31 0)) (run_cellQ rfl Tryd.underlying5 (eval_of hvp) wn (hI.upd.blk (show Blk ws2_0 br2_1 23 (numsA .u8 u) from Bxr2y1_s2_0.out) (fun h => h)) (by rw [Nat.zero_add]; exact numsA_get _ _ _ (by rw [hu]; omega))) (.val (.int .u8 (u.getD 31 0))) rfl rfl rfl hK'
          · obtain rfl := Option.some.inj ho
            obtain ⟨vp, hvp, hsp⟩ := hI.haveQ 1 _ 13 (.val (.int .u8 (u.getD 31 0))) rfl rfl rfl (hdep ⟨1, .data⟩ (by simp) rfl)
            obtain rfl := hsp
            exact hI.pureQ (by kernel_rfl) hls rfl rfl rfl (.int .u8 (bits .xor .u8 (u.getD 31 0) 128)) (run_xor8 rfl (eval_of hvp) rfl wn) (.val (.int .u8 (bits .xor .u8 (u.getD 31 0) 128))) rfl rfl rfl hK'
          · obtain rfl := Option.some.inj ho
            have hvp : an.eval (.tmp 7) = ptrTo br2_1 := hI.oldQ (by kernel_rfl) rfl
            exact hI.pureQ (by kernel_rfl) hls rfl rfl rfl (.pointer (some ⟨br2_1, 0 + 31, none⟩)) (run_adr (off := 0) (i := 31) rfl Tryd.underlying23 size5 hvp rfl (by omega) wn) (.val (.pointer (some ⟨br2_1, 0 + 31, none⟩))) rfl rfl rfl hK'
          · exact hi.elim
        · intro an w4 hI
          obtain ⟨vr3_0, hvr3_0, hsr3_0⟩ := hI.haveQ 0 _ 12 (.val (.pointer (some ⟨br2_1, 0 + 31, none⟩))) rfl rfl rfl rfl
          obtain rfl := hsr3_0
          obtain ⟨vr3_1, hvr3_1, hsr3_1⟩ := hI.haveQ 1 _ 13 (.val (.int .u8 (u.getD 31 0))) rfl rfl rfl rfl
          obtain rfl := hsr3_1
          obtain ⟨vr3_2, hvr3_2, hsr3_2⟩ := hI.haveQ 2 _ 14 (.val (.int .u8 (bits .xor .u8 (u.getD 31 0) 128))) rfl rfl rfl rfl
          obtain rfl := hsr3_2
          obtain ⟨vr3_3, hvr3_3, hsr3_3⟩ := hI.haveQ 3 _ 15 (.val (.pointer (some ⟨br2_1, 0 + 31, none⟩))) rfl rfl rfl rfl
          obtain rfl := hsr3_3
          have hupd := hI.upd
          have ha := hI.act [(12, .pointer (some ⟨br2_1, 0 + 31, none⟩)), (13, .int .u8 (u.getD 31 0)), (14, .int .u8 (bits .xor .u8 (u.getD 31 0) 128)), (15, .pointer (some ⟨br2_1, 0 + 31, none⟩))] (by simp [hvr3_0, hvr3_1, hvr3_2, hvr3_3]) (by kernel_rfl)
          clear hI hvr3_0 hvr3_1 hvr3_2 hvr3_3
          subst ha
          simp only [List.foldl_cons, List.foldl_nil, List.setIfInBounds_toArray, List.set_cons_zero, List.set_cons_succ]
          have Bxr0y0_3 := Lib.hid (hupd.blk (show Blk ws2_0 br0_0 23 (numsA .u8 a) from Bxr0y0_s2_0.out) (fun h => h))
          have Bxr0y1_3 := Lib.hid (hupd.blk (show Blk ws2_0 br0_1 23 (numsA .u8 b) from Bxr0y1_s2_0.out) (fun h => h))
          have Bxr0y2_3 := Lib.hid (hupd.blk (show Blk ws2_0 br0_2 23 (numsA .u8 u) from Bxr0y2_s2_0.out) (fun h => h))
          have Bxr2y1_3 := Lib.hid (hupd.blk (show Blk ws2_0 br2_1 23 (numsA .u8 u) from Bxr2y1_s2_0.out) (fun h => h))
          have HU3 := Lib.hid (HU2_0.out.trans hupd)
          clear hupd
          refine wpOps_storeB 4 rfl rfl rfl 5 (.tmp 15) (.tmp 14) rfl size5 br2_1 (0 + 31) rfl (bits .xor .u8 (u.getD 31 0) 128) rfl 23 u Bxr2y1_3.out (by rw [hu]; omega) ?_
          rw [Nat.zero_add]
          intro ws3_0 hs3_0 hus3_0
          have Bxr0y0_s3_0 := Lib.hid (hus3_0.blk Bxr0y0_3.out (fun e => hner2_1_Bxr0y0_1.out e.symm))
          have Bxr0y1_s3_0 := Lib.hid (hus3_0.blk Bxr0y1_3.out (fun e => hner2_1_Bxr0y1_1.out e.symm))
          have Bxr0y2_s3_0 := Lib.hid (hus3_0.blk Bxr0y2_3.out (fun e => hner2_1_Bxr0y2_1.out e.symm))
          have Bxr2y1_s3_0 := Lib.hid hs3_0
          have HU3_0 := Lib.hid (HU3.out.step hus3_0 (fun i hi h => absurd hi (Nat.not_lt.2 (h.symm ▸ hger2_1.out))))
          clear hs3_0 hus3_0
          refine wpOps_nil ?_
          refine hK4 _ _ ?_
          clear hK4
          refine wp_seq_k fun K5 hK5 => ?_
          refine wp_region_qS 2 #[true, true, false] [2] ([.val (.agg (numsA .u8 a)), .blk ptrTo 23 (fun z => z = numsA .u8 zeroKL), .val undef] : List SQ) (by kernel_rfl) (by kernel_rfl) (by kernel_rfl) ?_ ?_
          · intro i o listed an wn ho hls hst hun hdep hI hpre K' hK'
            have hi : i = 0 ∨ i = 1 ∨ False := slot_cases (l := [0, 1]) rfl ho hst
            rcases hi with rfl | rfl | hi
            · obtain rfl := Option.some.inj ho
              have hvp : an.eval (.tmp 3) = ptrTo br0_0 := hI.oldQ (by kernel_rfl) rfl
              exact hI.pureQ (by kernel_rfl) hls rfl rfl rfl _ (run_loadQ rfl hvp wn (hI.upd.blk (show Blk ws3_0 br0_0 23 (numsA .u8 a) from Bxr0y0_s3_0.out) (fun h => h)) Tryd.underlying23 rfl sizeKey (by rw [numsA_size, ha]; omega)) (.val (.agg (numsA .u8 a))) rfl (congrArg Value.agg (extract_all _ 32 (by rw [numsA_size]; exact ha))) rfl hK'
            · obtain rfl := Option.some.inj ho
              exact hI.newQ (by kernel_rfl) hls (Nat.le_refl _) (newsQ_spec (l := [1]) (by kernel_rfl) ⟨⟨_, _, rfl⟩, trivial⟩) rfl rfl rfl 23 _ (fun z => z = numsA .u8 zeroKL) (run_allocQ rfl zeroK_run wn) rfl rfl hK'
            · exact hi.elim
          · intro an w5 hI
            obtain ⟨vr4_0, hvr4_0, hsr4_0⟩ := hI.haveQ 0 _ 16 (.val (.agg (numsA .u8 a))) rfl rfl rfl rfl
            obtain rfl := hsr4_0
            obtain ⟨vr4_1, hvr4_1, br4_1, zr4_1, rfl, hnr4_1, hbr4_1, hzr4_1⟩ := hI.haveQ 1 _ 8 (.blk ptrTo 23 (fun z => z = numsA .u8 zeroKL)) rfl rfl rfl rfl
            rw [hzr4_1] at hbr4_1
            clear hzr4_1
            have hupd := hI.upd
            have ha := hI.act [(16, .agg (numsA .u8 a)), (8, ptrTo br4_1)] (by simp [hvr4_0, hvr4_1]) (by kernel_rfl)
            clear hI hvr4_0 hvr4_1
            subst ha
            simp only [List.foldl_cons, List.foldl_nil, List.setIfInBounds_toArray, List.set_cons_zero, List.set_cons_succ]
            have hner4_1_Bxr0y0_s3_0 := Lib.hid (show br4_1 ≠ br0_0 from Nat.ne_of_gt (Nat.lt_of_lt_of_le Bxr0y0_s3_0.out.lt hnr4_1))
            have hner4_1_Bxr0y1_s3_0 := Lib.hid (show br4_1 ≠ br0_1 from Nat.ne_of_gt (Nat.lt_of_lt_of_le Bxr0y1_s3_0.out.lt hnr4_1))
            have hner4_1_Bxr0y2_s3_0 := Lib.hid (show br4_1 ≠ br0_2 from Nat.ne_of_gt (Nat.lt_of_lt_of_le Bxr0y2_s3_0.out.lt hnr4_1))
            have hner4_1_Bxr2y1_s3_0 := Lib.hid (show br4_1 ≠ br2_1 from Nat.ne_of_gt (Nat.lt_of_lt_of_le Bxr2y1_s3_0.out.lt hnr4_1))
            have hger4_1 := Lib.hid (Nat.le_trans HU3_0.out.size hnr4_1)
            have Bxr0y0_4 := Lib.hid (hupd.blk (show Blk ws3_0 br0_0 23 (numsA .u8 a) from Bxr0y0_s3_0.out) (fun h => h))
            have Bxr0y1_4 := Lib.hid (hupd.blk (show Blk ws3_0 br0_1 23 (numsA .u8 b) from Bxr0y1_s3_0.out) (fun h => h))
            have Bxr0y2_4 := Lib.hid (hupd.blk (show Blk ws3_0 br0_2 23 (numsA .u8 u) from Bxr0y2_s3_0.out) (fun h => h))
            have Bxr2y1_4 := Lib.hid (hupd.blk (show Blk ws3_0 br2_1 23 (numsA .u8 (u.set 31 (bits .xor .u8 (u.getD 31 0) 128))) from Bxr2y1_s3_0.out) (fun h => h))
            have Bxr4y1 := Lib.hid hbr4_1
            have HU4 := Lib.hid (HU3_0.out.trans hupd)
            clear hupd
            refine wpOps_storeQ 2 rfl rfl rfl 23 (.tmp 8) (.tmp 16) rfl br4_1 0 32 rfl (numsA .u8 a) rfl 23 (numsA .u8 zeroKL) Bxr4y1.out sizeKey (by rw [numsA_size]; exact ha) (by rw [(show (numsA _ _).size = 32 by rw [numsA_size]; exact zeroKL_length)]; exact Nat.le_of_ble_eq_true rfl) (numsA_one _ _) ?_
            intro ws4_0 hs4_0 hus4_0
            rw [splice_all _ _ 32 (show (numsA _ _).size = 32 by rw [numsA_size]; exact zeroKL_length) (by rw [numsA_size]; exact ha)] at hs4_0
            have Bxr0y0_s4_0 := Lib.hid (hus4_0.blk Bxr0y0_4.out (fun e => hner4_1_Bxr0y0_s3_0.out e.symm))
            have Bxr0y1_s4_0 := Lib.hid (hus4_0.blk Bxr0y1_4.out (fun e => hner4_1_Bxr0y1_s3_0.out e.symm))
            have Bxr0y2_s4_0 := Lib.hid (hus4_0.blk Bxr0y2_4.out (fun e => hner4_1_Bxr0y2_s3_0.out e.symm))
            have Bxr2y1_s4_0 := Lib.hid (hus4_0.blk Bxr2y1_4.out (fun e => hner4_1_Bxr2y1_s3_0.out e.symm))
            have Bxr4y1_s4_0 := Lib.hid hs4_0
            have HU4_0 := Lib.hid (HU4.out.step hus4_0 (fun i hi h => absurd hi (Nat.not_lt.2 (h.symm ▸ hger4_1.out))))
            clear hs4_0 hus4_0
            refine wpOps_nil ?_
            refine hK5 _ _ ?_
            clear hK5
            refine wp_seq_k fun K6 hK6 => ?_
            refine wp_region_qS 4 #[true, true, true, true, false] [4] ([.val (.pointer (some ⟨br4_1, 0 + 0, none⟩)), .val (.int .u8 (a.getD 0 0)), .val (.int .u8 (bits .xor .u8 (a.getD 0 0) 5)), .val (.pointer (some ⟨br4_1, 0 + 0, none⟩)), .val undef] : List SQ) (by kernel_rfl) (by kernel_rfl) (by kernel_rfl) ?_ ?_
            · intro i o listed an wn ho hls hst hun hdep hI hpre K' hK'
              have hi : i = 0 ∨ i = 1 ∨ i = 2 ∨ i = 3 ∨ False := slot_cases (l := [0, 1, 2, 3]) rfl ho hst
              rcases hi with rfl | rfl | rfl | rfl | hi
              · obtain rfl := Option.some.inj ho
                have hvp : an.eval (.tmp 8) = ptrTo br4_1 := hI.oldQ (by kernel_rfl) rfl
                exact hI.pureQ (by kernel_rfl) hls rfl rfl rfl (.pointer (some ⟨br4_1, 0 + 0, none⟩)) (run_adr (off := 0) (i := 0) rfl Tryd.underlying23 size5 hvp rfl (by omega) wn) (.val (.pointer (some ⟨br4_1, 0 + 0, none⟩))) rfl rfl rfl hK'
              · obtain rfl := Option.some.inj ho
                obtain ⟨vp, hvp, hsp⟩ := hI.haveQ 0 _ 17 (.val (.pointer (some ⟨br4_1, 0 + 0, none⟩))) rfl rfl rfl (hdep ⟨0, .data⟩ (by simp) rfl)
                obtain rfl := hsp
                exact hI.pureQ (by kernel_rfl) hls rfl rfl rfl (.int .u8 (a.getD 0 0)) (run_cellQ rfl Tryd.underlying5 (eval_of hvp) wn (hI.upd.blk (show Blk ws4_0 br4_1 23 (numsA .u8 a) from Bxr4y1_s4_0.out) (fun h => h)) (by rw [Nat.zero_add]; exact numsA_get _ _ _ (by rw [ha]; omega))) (.val (.int .u8 (a.getD 0 0))) rfl rfl rfl hK'
              · obtain rfl := Option.some.inj ho
                obtain ⟨vp, hvp, hsp⟩ := hI.haveQ 1 _ 18 (.val (.int .u8 (a.getD 0 0))) rfl rfl rfl (hdep ⟨1, .data⟩ (by simp) rfl)
                obtain rfl := hsp
                exact hI.pureQ (by kernel_rfl) hls rfl rfl rfl (.int .u8 (bits .xor .u8 (a.getD 0 0) 5)) (run_xor8 rfl (eval_of hvp) rfl wn) (.val (.int .u8 (bits .xor .u8 (a.getD 0 0) 5))) rfl rfl rfl hK'
              · obtain rfl := Option.some.inj ho
                have hvp : an.eval (.tmp 8) = ptrTo br4_1 := hI.oldQ (by kernel_rfl) rfl
                exact hI.pureQ (by kernel_rfl) hls rfl rfl rfl (.pointer (some ⟨br4_1, 0 + 0, none⟩)) (run_adr (off := 0) (i := 0) rfl Tryd.underlying23 size5 hvp rfl (by omega) wn) (.val (.pointer (some ⟨br4_1, 0 + 0, none⟩))) rfl rfl rfl hK'
              · exact hi.elim
            · intro an w6 hI
              obtain ⟨vr5_0, hvr5_0, hsr5_0⟩ := hI.haveQ 0 _ 17 (.val (.pointer (some ⟨br4_1, 0 + 0, none⟩))) rfl rfl rfl rfl
              obtain rfl := hsr5_0
              obtain ⟨vr5_1, hvr5_1, hsr5_1⟩ := hI.haveQ 1 _ 18 (.val (.int .u8 (a.getD 0 0))) rfl rfl rfl rfl
              obtain rfl := hsr5_1
              obtain ⟨vr5_2, hvr5_2, hsr5_2⟩ := hI.haveQ 2 _ 19 (.val (.int .u8 (bits .xor .u8 (a.getD 0 0) 5))) rfl rfl rfl rfl
              obtain rfl := hsr5_2
              obtain ⟨vr5_3, hvr5_3, hsr5_3⟩ := hI.haveQ 3 _ 20 (.val (.pointer (some ⟨br4_1, 0 + 0, none⟩))) rfl rfl rfl rfl
              obtain rfl := hsr5_3
              have hupd := hI.upd
              have ha := hI.act [(17, .pointer (some ⟨br4_1, 0 + 0, none⟩)), (18, .int .u8 (a.getD 0 0)), (19, .int .u8 (bits .xor .u8 (a.getD 0 0) 5)), (20, .pointer (some ⟨br4_1, 0 + 0, none⟩))] (by simp [hvr5_0, hvr5_1, hvr5_2, hvr5_3]) (by kernel_rfl)
              clear hI hvr5_0 hvr5_1 hvr5_2 hvr5_3
              subst ha
              simp only [List.foldl_cons, List.foldl_nil, List.setIfInBounds_toArray, List.set_cons_zero, List.set_cons_succ]
              have Bxr0y0_5 := Lib.hid (hupd.blk (show Blk ws4_0 br0_0 23 (numsA .u8 a) from Bxr0y0_s4_0.out) (fun h => h))
              have Bxr0y1_5 := Lib.hid (hupd.blk (show Blk ws4_0 br0_1 23 (numsA .u8 b) from Bxr0y1_s4_0.out) (fun h => h))
              have Bxr0y2_5 := Lib.hid (hupd.blk (show Blk ws4_0 br0_2 23 (numsA .u8 u) from Bxr0y2_s4_0.out) (fun h => h))
              have Bxr2y1_5 := Lib.hid (hupd.blk (show Blk ws4_0 br2_1 23 (numsA .u8 (u.set 31 (bits .xor .u8 (u.getD 31 0) 128))) from Bxr2y1_s4_0.out) (fun h => h))
              have Bxr4y1_5 := Lib.hid (hupd.blk (show Blk ws4_0 br4_1 23 (numsA .u8 a) from Bxr4y1_s4_0.out) (fun h => h))
              have HU5 := Lib.hid (HU4_0.out.trans hupd)
              clear hupd
              refine wpOps_storeB 4 rfl rfl rfl 5 (.tmp 20) (.tmp 19) rfl size5 br4_1 (0 + 0) rfl (bits .xor .u8 (a.getD 0 0) 5) rfl 23 a Bxr4y1_5.out (by rw [ha]; omega) ?_
              rw [Nat.zero_add]
              intro ws5_0 hs5_0 hus5_0
              have Bxr0y0_s5_0 := Lib.hid (hus5_0.blk Bxr0y0_5.out (fun e => hner4_1_Bxr0y0_s3_0.out e.symm))
              have Bxr0y1_s5_0 := Lib.hid (hus5_0.blk Bxr0y1_5.out (fun e => hner4_1_Bxr0y1_s3_0.out e.symm))
              have Bxr0y2_s5_0 := Lib.hid (hus5_0.blk Bxr0y2_5.out (fun e => hner4_1_Bxr0y2_s3_0.out e.symm))
              have Bxr2y1_s5_0 := Lib.hid (hus5_0.blk Bxr2y1_5.out (fun e => hner4_1_Bxr2y1_s3_0.out e.symm))
              have Bxr4y1_s5_0 := Lib.hid hs5_0
              have HU5_0 := Lib.hid (HU5.out.step hus5_0 (fun i hi h => absurd hi (Nat.not_lt.2 (h.symm ▸ hger4_1.out))))
              clear hs5_0 hus5_0
              refine wpOps_nil ?_
              refine hK6 _ _ ?_
              clear hK6
              refine wp_seq_k fun K7 hK7 => ?_
              refine wp_region_qS 4 #[true, true, true, true, false] [4] ([.val (.pointer (some ⟨br4_1, 0 + 31, none⟩)), .val (.int .u8 ((a.set 0 (bits .xor .u8 (a.getD 0 0) 5)).getD 31 0)), .val (.int .u8 (bits .xor .u8 ((a.set 0 (bits .xor .u8 (a.getD 0 0) 5)).getD 31 0) 192)), .val (.pointer (some ⟨br4_1, 0 + 31, none⟩)), .val undef] : List SQ) (by kernel_rfl) (by kernel_rfl) (by kernel_rfl) ?_ ?_
              · intro i o listed an wn ho hls hst hun hdep hI hpre K' hK'
                have hi : i = 0 ∨ i = 1 ∨ i = 2 ∨ i = 3 ∨ False := slot_cases (l := [0, 1, 2, 3]) rfl ho hst
                rcases hi with rfl | rfl | rfl | rfl | hi
                · obtain rfl := Option.some.inj ho
                  have hvp : an.eval (.tmp 8) = ptrTo br4_1 := hI.oldQ (by kernel_rfl) rfl
                  exact hI.pureQ (by kernel_rfl) hls rfl rfl rfl (.pointer (some ⟨br4_1, 0 + 31, none⟩)) (run_adr (off := 0) (i := 31) rfl Tryd.underlying23 size5 hvp rfl (by omega) wn) (.val (.pointer (some ⟨br4_1, 0 + 31, none⟩))) rfl rfl rfl hK'
                · obtain rfl := Option.some.inj ho
                  obtain ⟨vp, hvp, hsp⟩ := hI.haveQ 0 _ 21 (.val (.pointer (some ⟨br4_1, 0 + 31, none⟩))) rfl rfl rfl (hdep ⟨0, .data⟩ (by simp) rfl)
                  obtain rfl := hsp
                  exact hI.pureQ (by kernel_rfl) hls rfl rfl rfl (.int .u8 ((a.set 0 (bits .xor .u8 (a.getD 0 0) 5)).getD 31 0)) (run_cellQ rfl Tryd.underlying5 (eval_of hvp) wn (hI.upd.blk (show Blk ws5_0 br4_1 23 (numsA .u8 (a.set 0 (bits .xor .u8 (a.getD 0 0) 5))) from Bxr4y1_s5_0.out) (fun h => h)) (by rw [Nat.zero_add]; exact numsA_get _ _ _ (by rw [(set_length ha _ _)]; omega))) (.val (.int .u8 ((a.set 0 (bits .xor .u8 (a.getD 0 0) 5)).getD 31 0))) rfl rfl rfl hK'
                · obtain rfl := Option.some.inj ho
                  obtain ⟨vp, hvp, hsp⟩ := hI.haveQ 1 _ 22 (.val (.int .u8 ((a.set 0 (bits .xor .u8 (a.getD 0 0) 5)).getD 31 0))) rfl rfl rfl (hdep ⟨1, .data⟩ (by simp) rfl)
                  obtain rfl := hsp
                  exact hI.pureQ (by kernel_rfl) hls rfl rfl rfl (.int .u8 (bits .xor .u8 ((a.set 0 (bits .xor .u8 (a.getD 0 0) 5)).getD 31 0) 192)) (run_xor8 rfl (eval_of hvp) rfl wn) (.val (.int .u8 (bits .xor .u8 ((a.set 0 (bits .xor .u8 (a.getD 0 0) 5)).getD 31 0) 192))) rfl rfl rfl hK'
                · obtain rfl := Option.some.inj ho
                  have hvp : an.eval (.tmp 8) = ptrTo br4_1 := hI.oldQ (by kernel_rfl) rfl
                  exact hI.pureQ (by kernel_rfl) hls rfl rfl rfl (.pointer (some ⟨br4_1, 0 + 31, none⟩)) (run_adr (off := 0) (i := 31) rfl Tryd.underlying23 size5 hvp rfl (by omega) wn) (.val (.pointer (some ⟨br4_1, 0 + 31, none⟩))) rfl rfl rfl hK'
                · exact hi.elim
              · intro an w7 hI
                obtain ⟨vr6_0, hvr6_0, hsr6_0⟩ := hI.haveQ 0 _ 21 (.val (.pointer (some ⟨br4_1, 0 + 31, none⟩))) rfl rfl rfl rfl
                obtain rfl := hsr6_0
                obtain ⟨vr6_1, hvr6_1, hsr6_1⟩ := hI.haveQ 1 _ 22 (.val (.int .u8 ((a.set 0 (bits .xor .u8 (a.getD 0 0) 5)).getD 31 0))) rfl rfl rfl rfl
                obtain rfl := hsr6_1
                obtain ⟨vr6_2, hvr6_2, hsr6_2⟩ := hI.haveQ 2 _ 23 (.val (.int .u8 (bits .xor .u8 ((a.set 0 (bits .xor .u8 (a.getD 0 0) 5)).getD 31 0) 192))) rfl rfl rfl rfl
                obtain rfl := hsr6_2
                obtain ⟨vr6_3, hvr6_3, hsr6_3⟩ := hI.haveQ 3 _ 24 (.val (.pointer (some ⟨br4_1, 0 + 31, none⟩))) rfl rfl rfl rfl
                obtain rfl := hsr6_3
                have hupd := hI.upd
                have ha := hI.act [(21, .pointer (some ⟨br4_1, 0 + 31, none⟩)), (22, .int .u8 ((a.set 0 (bits .xor .u8 (a.getD 0 0) 5)).getD 31 0)), (23, .int .u8 (bits .xor .u8 ((a.set 0 (bits .xor .u8 (a.getD 0 0) 5)).getD 31 0) 192)), (24, .pointer (some ⟨br4_1, 0 + 31, none⟩))] (by simp [hvr6_0, hvr6_1, hvr6_2, hvr6_3]) (by kernel_rfl)
                clear hI hvr6_0 hvr6_1 hvr6_2 hvr6_3
                subst ha
                simp only [List.foldl_cons, List.foldl_nil, List.setIfInBounds_toArray, List.set_cons_zero, List.set_cons_succ]
                have Bxr0y0_6 := Lib.hid (hupd.blk (show Blk ws5_0 br0_0 23 (numsA .u8 a) from Bxr0y0_s5_0.out) (fun h => h))
                have Bxr0y1_6 := Lib.hid (hupd.blk (show Blk ws5_0 br0_1 23 (numsA .u8 b) from Bxr0y1_s5_0.out) (fun h => h))
                have Bxr0y2_6 := Lib.hid (hupd.blk (show Blk ws5_0 br0_2 23 (numsA .u8 u) from Bxr0y2_s5_0.out) (fun h => h))
                have Bxr2y1_6 := Lib.hid (hupd.blk (show Blk ws5_0 br2_1 23 (numsA .u8 (u.set 31 (bits .xor .u8 (u.getD 31 0) 128))) from Bxr2y1_s5_0.out) (fun h => h))
                have Bxr4y1_6 := Lib.hid (hupd.blk (show Blk ws5_0 br4_1 23 (numsA .u8 (a.set 0 (bits .xor .u8 (a.getD 0 0) 5))) from Bxr4y1_s5_0.out) (fun h => h))
                have HU6 := Lib.hid (HU5_0.out.trans hupd)
                clear hupd
                refine wpOps_storeB 4 rfl rfl rfl 5 (.tmp 24) (.tmp 23) rfl size5 br4_1 (0 + 31) rfl (bits .xor .u8 ((a.set 0 (bits .xor .u8 (a.getD 0 0) 5)).getD 31 0) 192) rfl 23 (a.set 0 (bits .xor .u8 (a.getD 0 0) 5)) Bxr4y1_6.out (by rw [(set_length ha _ _)]; omega) ?_
                rw [Nat.zero_add]
                intro ws6_0 hs6_0 hus6_0
                have Bxr0y0_s6_0 := Lib.hid (hus6_0.blk Bxr0y0_6.out (fun e => hner4_1_Bxr0y0_s3_0.out e.symm))
                have Bxr0y1_s6_0 := Lib.hid (hus6_0.blk Bxr0y1_6.out (fun e => hner4_1_Bxr0y1_s3_0.out e.symm))
                have Bxr0y2_s6_0 := Lib.hid (hus6_0.blk Bxr0y2_6.out (fun e => hner4_1_Bxr0y2_s3_0.out e.symm))
                have Bxr2y1_s6_0 := Lib.hid (hus6_0.blk Bxr2y1_6.out (fun e => hner4_1_Bxr2y1_s3_0.out e.symm))
                have Bxr4y1_s6_0 := Lib.hid hs6_0
                have HU6_0 := Lib.hid (HU6.out.step hus6_0 (fun i hi h => absurd hi (Nat.not_lt.2 (h.symm ▸ hger4_1.out))))
                clear hs6_0 hus6_0
                refine wpOps_nil ?_
                refine hK7 _ _ ?_
                clear hK7
                refine wp_seq_k fun K8 hK8 => ?_
                refine wp_region_q #[true, true, true, true, true, true, true, true, true, true, true, true, true, true, true, true, true, true, true, true, true, true, true, true, true, true, true, true, true, true] ([.val (.agg (numsA .u8 a)), .val (.agg (numsA .u8 b)), .val (.agg (numsA .u8 u)), .val (.agg (numsA .u8 (keyOf (ladV (clampL b) (ofKey u))))), .val (.agg (numsA .u8 (keyOf (ladV (clampL a) (ofKey (keyOf (ladV (clampL b) (ofKey u)))))))), .val (.agg (numsA .u8 b)), .val (.agg (numsA .u8 a)), .val (.agg (numsA .u8 u)), .val (.agg (numsA .u8 (keyOf (ladV (clampL a) (ofKey u))))), .val (.agg (numsA .u8 (keyOf (ladV (clampL b) (ofKey (keyOf (ladV (clampL a) (ofKey u)))))))), .val (.bool true), .val (.bool true), .val (.agg (numsA .u8 a)), .val (.agg (numsA .u8 u)), .val (.agg (numsA .u8 (keyOf (ladV (clampL a) (ofKey u))))), .val (.agg (numsA .u8 a)), .val (.agg (numsA .u8 (u.set 31 (bits .xor .u8 (u.getD 31 0) 128)))), .val (.agg (numsA .u8 (keyOf (ladV (clampL a) (ofKey (u.set 31 (bits .xor .u8 (u.getD 31 0) 128))))))), .val (.bool true), .val (.bool true), .val (.bool true), .val (.agg (numsA .u8 ((a.set 0 (bits .xor .u8 (a.getD 0 0) 5)).set 31 (bits .xor .u8 ((a.set 0 (bits .xor .u8 (a.getD 0 0) 5)).getD 31 0) 192)))), .val (.agg (numsA .u8 u)), .val (.agg (numsA .u8 (keyOf (ladV (clampL ((a.set 0 (bits .xor .u8 (a.getD 0 0) 5)).set 31 (bits .xor .u8 ((a.set 0 (bits .xor .u8 (a.getD 0 0) 5)).getD 31 0) 192))) (ofKey u))))), .val (.agg (numsA .u8 a)), .val (.agg (numsA .u8 u)), .val (.agg (numsA .u8 (keyOf (ladV (clampL a) (ofKey u))))), .val (.bool true), .val (.bool true), .val (.bool true)] : List SQ) (by kernel_rfl) (by kernel_rfl) (by kernel_rfl) ?_ ?_
                · intro i o listed an wn ho hls hst hun hdep hI K' hK'
                  have hi : i = 0 ∨ i = 1 ∨ i = 2 ∨ i = 3 ∨ i = 4 ∨ i = 5 ∨ i = 6 ∨ i = 7 ∨ i = 8 ∨ i = 9 ∨ i = 10 ∨ i = 11 ∨ i = 12 ∨ i = 13 ∨ i = 14 ∨ i = 15 ∨ i = 16 ∨ i = 17 ∨ i = 18 ∨ i = 19 ∨ i = 20 ∨ i = 21 ∨ i = 22 ∨ i = 23 ∨ i = 24 ∨ i = 25 ∨ i = 26 ∨ i = 27 ∨ i = 28 ∨ i = 29 ∨ False := slot_cases (l := [0, 1, 2, 3, 4, 5, 6, 7, 8, 9, 10, 11, 12, 13, 14, 15, 16, 17, 18, 19, 20, 21, 22, 23, 24, 25, 26, 27, 28, 29]) rfl ho hst
                  rcases hi with rfl | rfl | rfl | rfl | rfl | rfl | rfl | rfl | rfl | rfl | rfl | rfl | rfl | rfl | rfl | rfl | rfl | rfl | rfl | rfl | rfl | rfl | rfl | rfl | rfl | rfl | rfl | rfl | rfl | rfl | hi
                  · obtain rfl := Option.some.inj ho
                    have hvp : an.eval (.tmp 3) = ptrTo br0_0 := hI.oldQ (by kernel_rfl) rfl
                    exact hI.pureQ (by kernel_rfl) hls rfl rfl rfl _ (run_loadQ rfl hvp wn (hI.upd.blk (show Blk ws6_0.drew br0_0 23 (numsA .u8 a) from Bxr0y0_s6_0.out) (fun h => h)) Tryd.underlying23 rfl sizeKey (by rw [numsA_size, ha]; omega)) (.val (.agg (numsA .u8 a))) rfl (congrArg Value.agg (extract_all _ 32 (by rw [numsA_size]; exact ha))) rfl hK'
                  · obtain rfl := Option.some.inj ho
                    have hvp : an.eval (.tmp 4) = ptrTo br0_1 := hI.oldQ (by kernel_rfl) rfl
                    exact hI.pureQ (by kernel_rfl) hls rfl rfl rfl _ (run_loadQ rfl hvp wn (hI.upd.blk (show Blk ws6_0.drew br0_1 23 (numsA .u8 b) from Bxr0y1_s6_0.out) (fun h => h)) Tryd.underlying23 rfl sizeKey (by rw [numsA_size, hb]; omega)) (.val (.agg (numsA .u8 b))) rfl (congrArg Value.agg (extract_all _ 32 (by rw [numsA_size]; exact hb))) rfl hK'
                  · obtain rfl := Option.some.inj ho
                    have hvp : an.eval (.tmp 5) = ptrTo br0_2 := hI.oldQ (by kernel_rfl) rfl
                    exact hI.pureQ (by kernel_rfl) hls rfl rfl rfl _ (run_loadQ rfl hvp wn (hI.upd.blk (show Blk ws6_0.drew br0_2 23 (numsA .u8 u) from Bxr0y2_s6_0.out) (fun h => h)) Tryd.underlying23 rfl sizeKey (by rw [numsA_size, hu]; omega)) (.val (.agg (numsA .u8 u))) rfl (congrArg Value.agg (extract_all _ 32 (by rw [numsA_size]; exact hu))) rfl hK'
                  · obtain rfl := Option.some.inj ho
                    obtain ⟨vp, hvp, hsp⟩ := hI.haveQ 1 _ 26 (.val (.agg (numsA .u8 b))) rfl rfl rfl (hdep ⟨1, .data⟩ (by simp) rfl)
                    obtain rfl := hsp
                    obtain ⟨vq, hvq, hsq⟩ := hI.haveQ 2 _ 27 (.val (.agg (numsA .u8 u))) rfl rfl rfl (hdep ⟨2, .data⟩ (by simp) rfl)
                    obtain rfl := hsq
                    exact hI.callQ (by kernel_rfl) hls rfl rfl rfl 17 #[.tmp 26, .tmp 27] _ rfl #[.agg (numsA .u8 b), .agg (numsA .u8 u)] (by simp [eval_of hvp, eval_of hvq]) (run_enter Tryd.func17 (by kernel_rfl) (by kernel_rfl)) (.val (.agg (numsA .u8 (keyOf (ladV (clampL b) (ofKey u)))))) rfl rfl ((multiplyL _ (HT.out.upd (HU6_0.out.drew.trans hI.upd)) hb db hu du).mono fun _ _ h => ret_val h) hK'
                  · obtain rfl := Option.some.inj ho
                    obtain ⟨vp, hvp, hsp⟩ := hI.haveQ 0 _ 25 (.val (.agg (numsA .u8 a))) rfl rfl rfl (hdep ⟨0, .data⟩ (by simp) rfl)
                    obtain rfl := hsp
                    obtain ⟨vq, hvq, hsq⟩ := hI.haveQ 3 _ 28 (.val (.agg (numsA .u8 (keyOf (ladV (clampL b) (ofKey u)))))) rfl rfl rfl (hdep ⟨3, .data⟩ (by simp) rfl)
                    obtain rfl := hsq
                    exact hI.callQ (by kernel_rfl) hls rfl rfl rfl 17 #[.tmp 25, .tmp 28] _ rfl #[.agg (numsA .u8 a), .agg (numsA .u8 (keyOf (ladV (clampL b) (ofKey u))))] (by simp [eval_of hvp, eval_of hvq]) (run_enter Tryd.func17 (by kernel_rfl) (by kernel_rfl)) (.val (.agg (numsA .u8 (keyOf (ladV (clampL a) (ofKey (keyOf (ladV (clampL b) (ofKey u))))))))) rfl rfl ((multiplyL _ (HT.out.upd (HU6_0.out.drew.trans hI.upd)) ha da (keyOf_length _) (keyOf_digs _)).mono fun _ _ h => ret_val h) hK'
                  · obtain rfl := Option.some.inj ho
                    have hvp : an.eval (.tmp 4) = ptrTo br0_1 := hI.oldQ (by kernel_rfl) rfl
                    exact hI.pureQ (by kernel_rfl) hls rfl rfl rfl _ (run_loadQ rfl hvp wn (hI.upd.blk (show Blk ws6_0.drew br0_1 23 (numsA .u8 b) from Bxr0y1_s6_0.out) (fun h => h)) Tryd.underlying23 rfl sizeKey (by rw [numsA_size, hb]; omega)) (.val (.agg (numsA .u8 b))) rfl (congrArg Value.agg (extract_all _ 32 (by rw [numsA_size]; exact hb))) rfl hK'
                  · obtain rfl := Option.some.inj ho
                    have hvp : an.eval (.tmp 3) = ptrTo br0_0 := hI.oldQ (by kernel_rfl) rfl
                    exact hI.pureQ (by kernel_rfl) hls rfl rfl rfl _ (run_loadQ rfl hvp wn (hI.upd.blk (show Blk ws6_0.drew br0_0 23 (numsA .u8 a) from Bxr0y0_s6_0.out) (fun h => h)) Tryd.underlying23 rfl sizeKey (by rw [numsA_size, ha]; omega)) (.val (.agg (numsA .u8 a))) rfl (congrArg Value.agg (extract_all _ 32 (by rw [numsA_size]; exact ha))) rfl hK'
                  · obtain rfl := Option.some.inj ho
                    have hvp : an.eval (.tmp 5) = ptrTo br0_2 := hI.oldQ (by kernel_rfl) rfl
                    exact hI.pureQ (by kernel_rfl) hls rfl rfl rfl _ (run_loadQ rfl hvp wn (hI.upd.blk (show Blk ws6_0.drew br0_2 23 (numsA .u8 u) from Bxr0y2_s6_0.out) (fun h => h)) Tryd.underlying23 rfl sizeKey (by rw [numsA_size, hu]; omega)) (.val (.agg (numsA .u8 u))) rfl (congrArg Value.agg (extract_all _ 32 (by rw [numsA_size]; exact hu))) rfl hK'
                  · obtain rfl := Option.some.inj ho
                    obtain ⟨vp, hvp, hsp⟩ := hI.haveQ 6 _ 31 (.val (.agg (numsA .u8 a))) rfl rfl rfl (hdep ⟨6, .data⟩ (by simp) rfl)
                    obtain rfl := hsp
                    obtain ⟨vq, hvq, hsq⟩ := hI.haveQ 7 _ 32 (.val (.agg (numsA .u8 u))) rfl rfl rfl (hdep ⟨7, .data⟩ (by simp) rfl)
                    obtain rfl := hsq
                    exact hI.callQ (by kernel_rfl) hls rfl rfl rfl 17 #[.tmp 31, .tmp 32] _ rfl #[.agg (numsA .u8 a), .agg (numsA .u8 u)] (by simp [eval_of hvp, eval_of hvq]) (run_enter Tryd.func17 (by kernel_rfl) (by kernel_rfl)) (.val (.agg (numsA .u8 (keyOf (ladV (clampL a) (ofKey u)))))) rfl rfl ((multiplyL _ (HT.out.upd (HU6_0.out.drew.trans hI.upd)) ha da hu du).mono fun _ _ h => ret_val h) hK'
                  · obtain rfl := Option.some.inj ho
                    obtain ⟨vp, hvp, hsp⟩ := hI.haveQ 5 _ 30 (.val (.agg (numsA .u8 b))) rfl rfl rfl (hdep ⟨5, .data⟩ (by simp) rfl)
                    obtain rfl := hsp
                    obtain ⟨vq, hvq, hsq⟩ := hI.haveQ 8 _ 33 (.val (.agg (numsA .u8 (keyOf (ladV (clampL a) (ofKey u)))))) rfl rfl rfl (hdep ⟨8, .data⟩ (by simp) rfl)
                    obtain rfl := hsq
                    exact hI.callQ (by kernel_rfl) hls rfl rfl rfl 17 #[.tmp 30, .tmp 33] _ rfl #[.agg (numsA .u8 b), .agg (numsA .u8 (keyOf (ladV (clampL a) (ofKey u))))] (by simp [eval_of hvp, eval_of hvq]) (run_enter Tryd.func17 (by kernel_rfl) (by kernel_rfl)) (.val (.agg (numsA .u8 (keyOf (ladV (clampL b) (ofKey (keyOf (ladV (clampL a) (ofKey u))))))))) rfl rfl ((multiplyL _ (HT.out.upd (HU6_0.out.drew.trans hI.upd)) hb db (keyOf_length _) (keyOf_digs _)).mono fun _ _ h => ret_val h) hK'
                  · obtain rfl := Option.some.inj ho
                    obtain ⟨vp, hvp, hsp⟩ := hI.haveQ 4 _ 29 (.val (.agg (numsA .u8 (keyOf (ladV (clampL a) (ofKey (keyOf (ladV (clampL b) (ofKey u))))))))) rfl rfl rfl (hdep ⟨4, .data⟩ (by simp) rfl)
                    obtain rfl := hsp
                    obtain ⟨vq, hvq, hsq⟩ := hI.haveQ 9 _ 34 (.val (.agg (numsA .u8 (keyOf (ladV (clampL b) (ofKey (keyOf (ladV (clampL a) (ofKey u))))))))) rfl rfl rfl (hdep ⟨9, .data⟩ (by simp) rfl)
                    obtain rfl := hsq
                    exact hI.pureQ (by kernel_rfl) hls rfl rfl rfl (.bool true) (run_eqlK (b := true) rfl (eval_of hvp) (eval_of hvq) (keyOf_length _) (keyOf_length _) f1 wn) (.val (.bool true)) rfl rfl rfl hK'
                  · obtain rfl := Option.some.inj ho
                    obtain ⟨vp, hvp, hsp⟩ := hI.haveQ 10 _ 35 (.val (.bool true)) rfl rfl rfl (hdep ⟨10, .data⟩ (by simp) rfl)
                    obtain rfl := hsp
                    exact hI.pureQ (by kernel_rfl) hls rfl rfl rfl (.bool true) (run_moveQ (.inl rfl) (eval_of hvp) wn) (.val (.bool true)) rfl rfl rfl hK'
                  · obtain rfl := Option.some.inj ho
                    obtain ⟨vg, hvg, hsg⟩ := hI.haveQ 11 _ 36 (.val (.bool true)) rfl rfl rfl (hdep ⟨11, .guard⟩ (by simp) rfl)
                    obtain rfl := hsg
                    have hvp : an.eval (.tmp 3) = ptrTo br0_0 := hI.oldQ (by kernel_rfl) rfl
                    exact hI.pureQ (by kernel_rfl) hls rfl (wanted_of rfl rfl rfl hvg) rfl _ (run_loadQ rfl hvp wn (hI.upd.blk (show Blk ws6_0.drew br0_0 23 (numsA .u8 a) from Bxr0y0_s6_0.out) (fun h => h)) Tryd.underlying23 rfl sizeKey (by rw [numsA_size, ha]; omega)) (.val (.agg (numsA .u8 a))) rfl (congrArg Value.agg (extract_all _ 32 (by rw [numsA_size]; exact ha))) rfl hK'
                  · obtain rfl := Option.some.inj ho
                    obtain ⟨vg, hvg, hsg⟩ := hI.haveQ 11 _ 36 (.val (.bool true)) rfl rfl rfl (hdep ⟨11, .guard⟩ (by simp) rfl)
                    obtain rfl := hsg
                    have hvp : an.eval (.tmp 5) = ptrTo br0_2 := hI.oldQ (by kernel_rfl) rfl
                    exact hI.pureQ (by kernel_rfl) hls rfl (wanted_of rfl rfl rfl hvg) rfl _ (run_loadQ rfl hvp wn (hI.upd.blk (show Blk ws6_0.drew br0_2 23 (numsA .u8 u) from Bxr0y2_s6_0.out) (fun h => h)) Tryd.underlying23 rfl sizeKey (by rw [numsA_size, hu]; omega)) (.val (.agg (numsA .u8 u))) rfl (congrArg Value.agg (extract_all _ 32 (by rw [numsA_size]; exact hu))) rfl hK'
                  · obtain rfl := Option.some.inj ho
                    obtain ⟨vg, hvg, hsg⟩ := hI.haveQ 11 _ 36 (.val (.bool true)) rfl rfl rfl (hdep ⟨11, .guard⟩ (by simp) rfl)
                    obtain rfl := hsg
                    obtain ⟨vp, hvp, hsp⟩ := hI.haveQ 12 _ 37 (.val (.agg (numsA .u8 a))) rfl rfl rfl (hdep ⟨12, .data⟩ (by simp) rfl)
                    obtain rfl := hsp
                    obtain ⟨vq, hvq, hsq⟩ := hI.haveQ 13 _ 38 (.val (.agg (numsA .u8 u))) rfl rfl rfl (hdep ⟨13, .data⟩ (by simp) rfl)
                    obtain rfl := hsq
                    exact hI.callQ (by kernel_rfl) hls rfl (wanted_of rfl rfl rfl hvg) rfl 17 #[.tmp 37, .tmp 38] _ rfl #[.agg (numsA .u8 a), .agg (numsA .u8 u)] (by simp [eval_of hvp, eval_of hvq]) (run_enter Tryd.func17 (by kernel_rfl) (by kernel_rfl)) (.val (.agg (numsA .u8 (keyOf (ladV (clampL a) (ofKey u)))))) rfl rfl ((multiplyL _ (HT.out.upd (HU6_0.out.drew.trans hI.upd)) ha da hu du).mono fun _ _ h => ret_val h) hK'
                  · obtain rfl := Option.some.inj ho
                    obtain ⟨vg, hvg, hsg⟩ := hI.haveQ 11 _ 36 (.val (.bool true)) rfl rfl rfl (hdep ⟨11, .guard⟩ (by simp) rfl)
                    obtain rfl := hsg
                    have hvp : an.eval (.tmp 3) = ptrTo br0_0 := hI.oldQ (by kernel_rfl) rfl
                    exact hI.pureQ (by kernel_rfl) hls rfl (wanted_of rfl rfl rfl hvg) rfl _ (run_loadQ rfl hvp wn (hI.upd.blk (show Blk ws6_0.drew br0_0 23 (numsA .u8 a) from Bxr0y0_s6_0.out) (fun h => h)) Tryd.underlying23 rfl sizeKey (by rw [numsA_size, ha]; omega)) (.val (.agg (numsA .u8 a))) rfl (congrArg Value.agg (extract_all _ 32 (by rw [numsA_size]; exact ha))) rfl hK'
                  · obtain rfl := Option.some.inj ho
                    obtain ⟨vg, hvg, hsg⟩ := hI.haveQ 11 _ 36 (.val (.bool true)) rfl rfl rfl (hdep ⟨11, .guard⟩ (by simp) rfl)
                    obtain rfl := hsg
                    have hvp : an.eval (.tmp 7) = ptrTo br2_1 := hI.oldQ (by kernel_rfl) rfl
                    exact hI.pureQ (by kernel_rfl) hls rfl (wanted_of rfl rfl rfl hvg) rfl _ (run_loadQ rfl hvp wn (hI.upd.blk (show Blk ws6_0.drew br2_1 23 (numsA .u8 (u.set 31 (bits .xor .u8 (u.getD 31 0) 128))) from Bxr2y1_s6_0.out) (fun h => h)) Tryd.underlying23 rfl sizeKey (by rw [numsA_size, (set_length hu _ _)]; omega)) (.val (.agg (numsA .u8 (u.set 31 (bits .xor .u8 (u.getD 31 0) 128))))) rfl (congrArg Value.agg (extract_all _ 32 (by rw [numsA_size]; exact (set_length hu _ _)))) rfl hK'
                  · obtain rfl := Option.some.inj ho
                    obtain ⟨vg, hvg, hsg⟩ := hI.haveQ 11 _ 36 (.val (.bool true)) rfl rfl rfl (hdep ⟨11, .guard⟩ (by simp) rfl)
                    obtain rfl := hsg
                    obtain ⟨vp, hvp, hsp⟩ := hI.haveQ 15 _ 40 (.val (.agg (numsA .u8 a))) rfl rfl rfl (hdep ⟨15, .data⟩ (by simp) rfl)
                    obtain rfl := hsp
                    obtain ⟨vq, hvq, hsq⟩ := hI.haveQ 16 _ 41 (.val (.agg (numsA .u8 (u.set 31 (bits .xor .u8 (u.getD 31 0) 128))))) rfl rfl rfl (hdep ⟨16, .data⟩ (by simp) rfl)
                    obtain rfl := hsq
                    exact hI.callQ (by kernel_rfl) hls rfl (wanted_of rfl rfl rfl hvg) rfl 17 #[.tmp 40, .tmp 41] _ rfl #[.agg (numsA .u8 a), .agg (numsA .u8 (u.set 31 (bits .xor .u8 (u.getD 31 0) 128)))] (by simp [eval_of hvp, eval_of hvq]) (run_enter Tryd.func17 (by kernel_rfl) (by kernel_rfl)) (.val (.agg (numsA .u8 (keyOf (ladV (clampL a) (ofKey (u.set 31 (bits .xor .u8 (u.getD 31 0) 128)))))))) rfl rfl ((multiplyL _ (HT.out.upd (HU6_0.out.drew.trans hI.upd)) ha da (set_length hu _ _) (digs_set du _ _ (xor8_bnd _ _ (Digs.get (B := 256) (by decide) du _) (by decide)).1 (xor8_bnd _ _ (Digs.get (B := 256) (by decide) du _) (by decide)).2)).mono fun _ _ h => ret_val h) hK'
                  · obtain rfl := Option.some.inj ho
                    obtain ⟨vg, hvg, hsg⟩ := hI.haveQ 11 _ 36 (.val (.bool true)) rfl rfl rfl (hdep ⟨11, .guard⟩ (by simp) rfl)
                    obtain rfl := hsg
                    obtain ⟨vp, hvp, hsp⟩ := hI.haveQ 14 _ 39 (.val (.agg (numsA .u8 (keyOf (ladV (clampL a) (ofKey u)))))) rfl rfl rfl (hdep ⟨14, .data⟩ (by simp) rfl)
                    obtain rfl := hsp
                    obtain ⟨vq, hvq, hsq⟩ := hI.haveQ 17 _ 42 (.val (.agg (numsA .u8 (keyOf (ladV (clampL a) (ofKey (u.set 31 (bits .xor .u8 (u.getD 31 0) 128)))))))) rfl rfl rfl (hdep ⟨17, .data⟩ (by simp) rfl)
                    obtain rfl := hsq
                    exact hI.pureQ (by kernel_rfl) hls rfl (wanted_of rfl rfl rfl hvg) rfl (.bool true) (run_eqlK (b := true) rfl (eval_of hvp) (eval_of hvq) (keyOf_length _) (keyOf_length _) f2 wn) (.val (.bool true)) rfl rfl rfl hK'
                  · obtain rfl := Option.some.inj ho
                    obtain ⟨vp, hvp, hsp⟩ := hI.haveQ 11 _ 36 (.val (.bool true)) rfl rfl rfl (hdep ⟨11, .data⟩ (by simp) rfl)
                    obtain rfl := hsp
                    obtain ⟨vq, hvq, hsq⟩ := hI.haveQ 18 _ 43 (.val (.bool true)) rfl rfl rfl (hdep ⟨18, .data⟩ (by simp) rfl)
                    obtain rfl := hsq
                    exact hI.pureQ (by kernel_rfl) hls rfl rfl rfl (.bool true) (run_pickT rfl (eval_of hvp) (eval_of hvq) wn) (.val (.bool true)) rfl rfl rfl hK'
                  · obtain rfl := Option.some.inj ho
                    obtain ⟨vp, hvp, hsp⟩ := hI.haveQ 19 _ 44 (.val (.bool true)) rfl rfl rfl (hdep ⟨19, .data⟩ (by simp) rfl)
                    obtain rfl := hsp
                    exact hI.pureQ (by kernel_rfl) hls rfl rfl rfl (.bool true) (run_moveQ (.inl rfl) (eval_of hvp) wn) (.val (.bool true)) rfl rfl rfl hK'
                  · obtain rfl := Option.some.inj ho
                    obtain ⟨vg, hvg, hsg⟩ := hI.haveQ 20 _ 45 (.val (.bool true)) rfl rfl rfl (hdep ⟨20, .guard⟩ (by simp) rfl)
                    obtain rfl := hsg
                    have hvp : an.eval (.tmp 8) = ptrTo br4_1 := hI.oldQ (by kernel_rfl) rfl
                    exact hI.pureQ (by kernel_rfl) hls rfl (wanted_of rfl rfl rfl hvg) rfl _ (run_loadQ rfl hvp wn (hI.upd.blk (show Blk ws6_0.drew br4_1 23 (numsA .u8 ((a.set 0 (bits .xor .u8 (a.getD 0 0) 5)).set 31 (bits .xor .u8 ((a.set 0 (bits .xor .u8 (a.getD 0 0) 5)).getD 31 0) 192))) from Bxr4y1_s6_0.out) (fun h => h)) Tryd.underlying23 rfl sizeKey (by rw [numsA_size, (set_length (set_length ha _ _) _ _)]; omega)) (.val (.agg (numsA .u8 ((a.set 0 (bits .xor .u8 (a.getD 0 0) 5)).set 31 (bits .xor .u8 ((a.set 0 (bits .xor .u8 (a.getD 0 0) 5)).getD 31 0) 192))))) rfl (congrArg Value.agg (extract_all _ 32 (by rw [numsA_size]; exact (set_length (set_length ha _ _) _ _)))) rfl hK'
                  · obtain rfl := Option.some.inj ho
                    obtain ⟨vg, hvg, hsg⟩ := hI.haveQ 20 _ 45 (.val (.bool true)) rfl rfl rfl (hdep ⟨20, .guard⟩ (by simp) rfl)
                    obtain rfl := hsg
                    have hvp : an.eval (.tmp 5) = ptrTo br0_2 := hI.oldQ (by kernel_rfl) rfl
                    exact hI.pureQ (by kernel_rfl) hls rfl (wanted_of rfl rfl rfl hvg) rfl _ (run_loadQ rfl hvp wn (hI.upd.blk (show Blk ws6_0.drew br0_2 23 (numsA .u8 u) from Bxr0y2_s6_0.out) (fun h => h)) Tryd.underlying23 rfl sizeKey (by rw [numsA_size, hu]; omega)) (.val (.agg (numsA .u8 u))) rfl (congrArg Value.agg (extract_all _ 32 (by rw [numsA_size]; exact hu))) rfl hK'
                  · obtain rfl := Option.some.inj ho
                    obtain ⟨vg, hvg, hsg⟩ := hI.haveQ 20 _ 45 (.val (.bool true)) rfl rfl rfl (hdep ⟨20, .guard⟩ (by simp) rfl)
                    obtain rfl := hsg
                    obtain ⟨vp, hvp, hsp⟩ := hI.haveQ 21 _ 46 (.val (.agg (numsA .u8 ((a.set 0 (bits .xor .u8 (a.getD 0 0) 5)).set 31 (bits .xor .u8 ((a.set 0 (bits .xor .u8 (a.getD 0 0) 5)).getD 31 0) 192))))) rfl rfl rfl (hdep ⟨21, .data⟩ (by simp) rfl)
                    obtain rfl := hsp
                    obtain ⟨vq, hvq, hsq⟩ := hI.haveQ 22 _ 47 (.val (.agg (numsA .u8 u))) rfl rfl rfl (hdep ⟨22, .data⟩ (by simp) rfl)
                    obtain rfl := hsq
                    exact hI.callQ (by kernel_rfl) hls rfl (wanted_of rfl rfl rfl hvg) rfl 17 #[.tmp 46, .tmp 47] _ rfl #[.agg (numsA .u8 ((a.set 0 (bits .xor .u8 (a.getD 0 0) 5)).set 31 (bits .xor .u8 ((a.set 0 (bits .xor .u8 (a.getD 0 0) 5)).getD 31 0) 192))), .agg (numsA .u8 u)] (by simp [eval_of hvp, eval_of hvq]) (run_enter Tryd.func17 (by kernel_rfl) (by kernel_rfl)) (.val (.agg (numsA .u8 (keyOf (ladV (clampL ((a.set 0 (bits .xor .u8 (a.getD 0 0) 5)).set 31 (bits .xor .u8 ((a.set 0 (bits .xor .u8 (a.getD 0 0) 5)).getD 31 0) 192))) (ofKey u)))))) rfl rfl ((multiplyL _ (HT.out.upd (HU6_0.out.drew.trans hI.upd)) (set_length (set_length ha _ _) _ _) (digs_set (digs_set da _ _ (xor8_bnd _ _ (Digs.get (B := 256) (by decide) da _) (by decide)).1 (xor8_bnd _ _ (Digs.get (B := 256) (by decide) da _) (by decide)).2) _ _ (xor8_bnd _ _ (Digs.get (B := 256) (by decide) (digs_set da _ _ (xor8_bnd _ _ (Digs.get (B := 256) (by decide) da _) (by decide)).1 (xor8_bnd _ _ (Digs.get (B := 256) (by decide) da _) (by decide)).2) _) (by decide)).1 (xor8_bnd _ _ (Digs.get (B := 256) (by decide) (digs_set da _ _ (xor8_bnd _ _ (Digs.get (B := 256) (by decide) da _) (by decide)).1 (xor8_bnd _ _ (Digs.get (B := 256) (by decide) da _) (by decide)).2) _) (by decide)).2) hu du).mono fun _ _ h => ret_val h) hK'
                  · obtain rfl := Option.some.inj ho
                    obtain ⟨vg, hvg, hsg⟩ := hI.haveQ 20 _ 45 (.val (.bool true)) rfl rfl rfl (hdep ⟨20, .guard⟩ (by simp) rfl)
                    obtain rfl := hsg
                    have hvp : an.eval (.tmp 3) = ptrTo br0_0 := hI.oldQ (by kernel_rfl) rfl
                    exact hI.pureQ (by kernel_rfl) hls rfl (wanted_of rfl rfl rfl hvg) rfl _ (run_loadQ rfl hvp wn (hI.upd.blk (show Blk ws6_0.drew br0_0 23 (numsA .u8 a) from Bxr0y0_s6_0.out) (fun h => h)) Tryd.underlying23 rfl sizeKey (by rw [numsA_size, ha]; omega)) (.val (.agg (numsA .u8 a))) rfl (congrArg Value.agg (extract_all _ 32 (by rw [numsA_size]; exact ha))) rfl hK'
                  · obtain rfl := Option.some.inj ho
                    obtain ⟨vg, hvg, hsg⟩ := hI.haveQ 20 _ 45 (.val (.bool true)) rfl rfl rfl (hdep ⟨20, .guard⟩ (by simp) rfl)
                    obtain rfl := hsg
                    have hvp : an.eval (.tmp 5) = ptrTo br0_2 := hI.oldQ (by kernel_rfl) rfl
                    exact hI.pureQ (by kernel_rfl) hls rfl (wanted_of rfl rfl rfl hvg) rfl _ (run_loadQ rfl hvp wn (hI.upd.blk (show Blk ws6_0.drew br0_2 23 (numsA .u8 u) from Bxr0y2_s6_0.out) (fun h => h)) Tryd.underlying23 rfl sizeKey (by rw [numsA_size, hu]; omega)) (.val (.agg (numsA .u8 u))) rfl (congrArg Value.agg (extract_all _ 32 (by rw [numsA_size]; exact hu))) rfl hK'
                  · obtain rfl := Option.some.inj ho
                    obtain ⟨vg, hvg, hsg⟩ := hI.haveQ 20 _ 45 (.val (.bool true)) rfl rfl rfl (hdep ⟨20, .guard⟩ (by simp) rfl)
                    obtain rfl := hsg
                    obtain ⟨vp, hvp, hsp⟩ := hI.haveQ 24 _ 49 (.val (.agg (numsA .u8 a))) rfl rfl rfl (hdep ⟨24, .data⟩ (by simp) rfl)
                    obtain rfl := hsp
                    obtain ⟨vq, hvq, hsq⟩ := hI.haveQ 25 _ 50 (.val (.agg (numsA .u8 u))) rfl rfl rfl (hdep ⟨25, .data⟩ (by simp) rfl)
                    obtain rfl := hsq
                    exact hI.callQ (by kernel_rfl) hls rfl (wanted_of rfl rfl rfl hvg) rfl 17 #[.tmp 49, .tmp 50] _ rfl #[.agg (numsA .u8 a), .agg (numsA .u8 u)] (by simp [eval_of hvp, eval_of hvq]) (run_enter Tryd.func17 (by kernel_rfl) (by kernel_rfl)) (.val (.agg (numsA .u8 (keyOf (ladV (clampL a) (ofKey u)))))) rfl rfl ((multiplyL _ (HT.out.upd (HU6_0.out.drew.trans hI.upd)) ha da hu du).mono fun _ _ h => ret_val h) hK'
                  · obtain rfl := Option.some.inj ho
                    obtain ⟨vg, hvg, hsg⟩ := hI.haveQ 20 _ 45 (.val (.bool true)) rfl rfl rfl (hdep ⟨20, .guard⟩ (by simp) rfl)
                    obtain rfl := hsg
                    obtain ⟨vp, hvp, hsp⟩ := hI.haveQ 23 _ 48 (.val (.agg (numsA .u8 (keyOf (ladV (clampL ((a.set 0 (bits .xor .u8 (a.getD 0 0) 5)).set 31 (bits .xor .u8 ((a.set 0 (bits .xor .u8 (a.getD 0 0) 5)).getD 31 0) 192))) (ofKey u)))))) rfl rfl rfl (hdep ⟨23, .data⟩ (by simp) rfl)
                    obtain rfl := hsp
                    obtain ⟨vq, hvq, hsq⟩ := hI.haveQ 26 _ 51 (.val (.agg (numsA .u8 (keyOf (ladV (clampL a) (ofKey u)))))) rfl rfl rfl (hdep ⟨26, .data⟩ (by simp) rfl)
                    obtain rfl := hsq
                    exact hI.pureQ (by kernel_rfl) hls rfl (wanted_of rfl rfl rfl hvg) rfl (.bool true) (run_eqlK (b := true) rfl (eval_of hvp) (eval_of hvq) (keyOf_length _) (keyOf_length _) f3 wn) (.val (.bool true)) rfl rfl rfl hK'
                  · obtain rfl := Option.some.inj ho
                    obtain ⟨vp, hvp, hsp⟩ := hI.haveQ 20 _ 45 (.val (.bool true)) rfl rfl rfl (hdep ⟨20, .data⟩ (by simp) rfl)
                    obtain rfl := hsp
                    obtain ⟨vq, hvq, hsq⟩ := hI.haveQ 27 _ 52 (.val (.bool true)) rfl rfl rfl (hdep ⟨27, .data⟩ (by simp) rfl)
                    obtain rfl := hsq
                    exact hI.pureQ (by kernel_rfl) hls rfl rfl rfl (.bool true) (run_pickT rfl (eval_of hvp) (eval_of hvq) wn) (.val (.bool true)) rfl rfl rfl hK'
                  · obtain rfl := Option.some.inj ho
                    obtain ⟨vp, hvp, hsp⟩ := hI.haveQ 28 _ 53 (.val (.bool true)) rfl rfl rfl (hdep ⟨28, .data⟩ (by simp) rfl)
                    obtain rfl := hsp
                    exact hI.pureQ (by kernel_rfl) hls rfl rfl rfl (.bool true) (run_moveQ (.inr rfl) (eval_of hvp) wn) (.val (.bool true)) rfl rfl rfl hK'
                  · exact hi.elim
                · intro fuel an w8 hf hI
                  obtain ⟨vr7_0, hvr7_0, hsr7_0⟩ := hI.haveQ 0 _ 25 (.val (.agg (numsA .u8 a))) rfl rfl rfl rfl
                  obtain rfl := hsr7_0
                  obtain ⟨vr7_1, hvr7_1, hsr7_1⟩ := hI.haveQ 1 _ 26 (.val (.agg (numsA .u8 b))) rfl rfl rfl rfl
                  obtain rfl := hsr7_1
                  obtain ⟨vr7_2, hvr7_2, hsr7_2⟩ := hI.haveQ 2 _ 27 (.val (.agg (numsA .u8 u))) rfl rfl rfl rfl
                  obtain rfl := hsr7_2
                  obtain ⟨vr7_3, hvr7_3, hsr7_3⟩ := hI.haveQ 3 _ 28 (.val (.agg (numsA .u8 (keyOf (ladV (clampL b) (ofKey u)))))) rfl rfl rfl rfl
                  obtain rfl := hsr7_3
                  obtain ⟨vr7_4, hvr7_4, hsr7_4⟩ := hI.haveQ 4 _ 29 (.val (.agg (numsA .u8 (keyOf (ladV (clampL a) (ofKey (keyOf (ladV (clampL b) (ofKey u))))))))) rfl rfl rfl rfl
                  obtain rfl := hsr7_4
                  obtain ⟨vr7_5, hvr7_5, hsr7_5⟩ := hI.haveQ 5 _ 30 (.val (.agg (numsA .u8 b))) rfl rfl rfl rfl
                  obtain rfl := hsr7_5
                  obtain ⟨vr7_6, hvr7_6, hsr7_6⟩ := hI.haveQ 6 _ 31 (.val (.agg (numsA .u8 a))) rfl rfl rfl rfl
                  obtain rfl := hsr7_6
                  obtain ⟨vr7_7, hvr7_7, hsr7_7⟩ := hI.haveQ 7 _ 32 (.val (.agg (numsA .u8 u))) rfl rfl rfl rfl
                  obtain rfl := hsr7_7
                  obtain ⟨vr7_8, hvr7_8, hsr7_8⟩ := hI.haveQ 8 _ 33 (.val (.agg (numsA .u8 (keyOf (ladV (clampL a) (ofKey u)))))) rfl rfl rfl rfl
                  obtain rfl := hsr7_8
                  obtain ⟨vr7_9, hvr7_9, hsr7_9⟩ := hI.haveQ 9 _ 34 (.val (.agg (numsA .u8 (keyOf (ladV (clampL b) (ofKey (keyOf (ladV (clampL a) (ofKey u))))))))) rfl rfl rfl rfl
                  obtain rfl := hsr7_9
                  obtain ⟨vr7_10, hvr7_10, hsr7_10⟩ := hI.haveQ 10 _ 35 (.val (.bool true)) rfl rfl rfl rfl
                  obtain rfl := hsr7_10
                  obtain ⟨vr7_11, hvr7_11, hsr7_11⟩ := hI.haveQ 11 _ 36 (.val (.bool true)) rfl rfl rfl rfl
                  obtain rfl := hsr7_11
                  obtain ⟨vr7_12, hvr7_12, hsr7_12⟩ := hI.haveQ 12 _ 37 (.val (.agg (numsA .u8 a))) rfl rfl rfl rfl
                  obtain rfl := hsr7_12
                  obtain ⟨vr7_13, hvr7_13, hsr7_13⟩ := hI.haveQ 13 _ 38 (.val (.agg (numsA .u8 u))) rfl rfl rfl rfl
                  obtain rfl := hsr7_13
                  obtain ⟨vr7_14, hvr7_14, hsr7_14⟩ := hI.haveQ 14 _ 39 (.val (.agg (numsA .u8 (keyOf (ladV (clampL a) (ofKey u)))))) rfl rfl rfl rfl
                  obtain rfl := hsr7_14
                  obtain ⟨vr7_15, hvr7_15, hsr7_15⟩ := hI.haveQ 15 _ 40 (.val (.agg (numsA .u8 a))) rfl rfl rfl rfl
                  obtain rfl := hsr7_15
                  obtain ⟨vr7_16, hvr7_16, hsr7_16⟩ := hI.haveQ 16 _ 41 (.val (.agg (numsA .u8 (u.set 31 (bits .xor .u8 (u.getD 31 0) 128))))) rfl rfl rfl rfl
                  obtain rfl := hsr7_16
                  obtain ⟨vr7_17, hvr7_17, hsr7_17⟩ := hI.haveQ 17 _ 42 (.val (.agg (numsA .u8 (keyOf (ladV (clampL a) (ofKey (u.set 31 (bits .xor .u8 (u.getD 31 0) 128)))))))) rfl rfl rfl rfl
                  obtain rfl := hsr7_17
                  obtain ⟨vr7_18, hvr7_18, hsr7_18⟩ := hI.haveQ 18 _ 43 (.val (.bool true)) rfl rfl rfl rfl
                  obtain rfl := hsr7_18
                  obtain ⟨vr7_19, hvr7_19, hsr7_19⟩ := hI.haveQ 19 _ 44 (.val (.bool true)) rfl rfl rfl rfl
                  obtain rfl := hsr7_19
                  obtain ⟨vr7_20, hvr7_20, hsr7_20⟩ := hI.haveQ 20 _ 45 (.val (.bool true)) rfl rfl rfl rfl
                  obtain rfl := hsr7_20
                  obtain ⟨vr7_21, hvr7_21, hsr7_21⟩ := hI.haveQ 21 _ 46 (.val (.agg (numsA .u8 ((a.set 0 (bits .xor .u8 (a.getD 0 0) 5)).set 31 (bits .xor .u8 ((a.set 0 (bits .xor .u8 (a.getD 0 0) 5)).getD 31 0) 192))))) rfl rfl rfl rfl
                  obtain rfl := hsr7_21
                  obtain ⟨vr7_22, hvr7_22, hsr7_22⟩ := hI.haveQ 22 _ 47 (.val (.agg (numsA .u8 u))) rfl rfl rfl rfl
                  obtain rfl := hsr7_22
                  obtain ⟨vr7_23, hvr7_23, hsr7_23⟩ := hI.haveQ 23 _ 48 (.val (.agg (numsA .u8 (keyOf (ladV (clampL ((a.set 0 (bits .xor .u8 (a.getD 0 0) 5)).set 31 (bits .xor .u8 ((a.set 0 (bits .xor .u8 (a.getD 0 0) 5)).getD 31 0) 192))) (ofKey u)))))) rfl rfl rfl rfl
                  obtain rfl := hsr7_23
                  obtain ⟨vr7_24, hvr7_24, hsr7_24⟩ := hI.haveQ 24 _ 49 (.val (.agg (numsA .u8 a))) rfl rfl rfl rfl
                  obtain rfl := hsr7_24
                  obtain ⟨vr7_25, hvr7_25, hsr7_25⟩ := hI.haveQ 25 _ 50 (.val (.agg (numsA .u8 u))) rfl rfl rfl rfl
                  obtain rfl := hsr7_25
                  obtain ⟨vr7_26, hvr7_26, hsr7_26⟩ := hI.haveQ 26 _ 51 (.val (.agg (numsA .u8 (keyOf (ladV (clampL a) (ofKey u)))))) rfl rfl rfl rfl
                  obtain rfl := hsr7_26
                  obtain ⟨vr7_27, hvr7_27, hsr7_27⟩ := hI.haveQ 27 _ 52 (.val (.bool true)) rfl rfl rfl rfl
                  obtain rfl := hsr7_27
                  obtain ⟨vr7_28, hvr7_28, hsr7_28⟩ := hI.haveQ 28 _ 53 (.val (.bool true)) rfl rfl rfl rfl
                  obtain rfl := hsr7_28
                  obtain ⟨vr7_29, hvr7_29, hsr7_29⟩ := hI.haveQ 29 _ 6 (.val (.bool true)) rfl rfl rfl rfl
                  obtain rfl := hsr7_29
                  have hupd := hI.upd
                  have ha := hI.act [(25, .agg (numsA .u8 a)), (26, .agg (numsA .u8 b)), (27, .agg (numsA .u8 u)), (28, .agg (numsA .u8 (keyOf (ladV (clampL b) (ofKey u))))), (29, .agg (numsA .u8 (keyOf (ladV (clampL a) (ofKey (keyOf (ladV (clampL b) (ofKey u)))))))), (30, .agg (numsA .u8 b)), (31, .agg (numsA .u8 a)), (32, .agg (numsA .u8 u)), (33, .agg (numsA .u8 (keyOf (ladV (clampL a) (ofKey u))))), (34, .agg (numsA .u8 (keyOf (ladV (clampL b) (ofKey (keyOf (ladV (clampL a) (ofKey u)))))))), (35, .bool true), (36, .bool true), (37, .agg (numsA .u8 a)), (38, .agg (numsA .u8 u)), (39, .agg (numsA .u8 (keyOf (ladV (clampL a) (ofKey u))))), (40, .agg (numsA .u8 a)), (41, .agg (numsA .u8 (u.set 31 (bits .xor .u8 (u.getD 31 0) 128)))), (42, .agg (numsA .u8 (keyOf (ladV (clampL a) (ofKey (u.set 31 (bits .xor .u8 (u.getD 31 0) 128))))))), (43, .bool true), (44, .bool true), (45, .bool true), (46, .agg (numsA .u8 ((a.set 0 (bits .xor .u8 (a.getD 0 0) 5)).set 31 (bits .xor .u8 ((a.set 0 (bits .xor .u8 (a.getD 0 0) 5)).getD 31 0) 192)))), (47, .agg (numsA .u8 u)), (48, .agg (numsA .u8 (keyOf (ladV (clampL ((a.set 0 (bits .xor .u8 (a.getD 0 0) 5)).set 31 (bits .xor .u8 ((a.set 0 (bits .xor .u8 (a.getD 0 0) 5)).getD 31 0) 192))) (ofKey u))))), (49, .agg (numsA .u8 a)), (50, .agg (numsA .u8 u)), (51, .agg (numsA .u8 (keyOf (ladV (clampL a) (ofKey u))))), (52, .bool true), (53, .bool true), (6, .bool true)] (by simp [hvr7_0, hvr7_1, hvr7_2, hvr7_3, hvr7_4, hvr7_5, hvr7_6, hvr7_7, hvr7_8, hvr7_9, hvr7_10, hvr7_11, hvr7_12, hvr7_13, hvr7_14, hvr7_15, hvr7_16, hvr7_17, hvr7_18, hvr7_19, hvr7_20, hvr7_21, hvr7_22, hvr7_23, hvr7_24, hvr7_25, hvr7_26, hvr7_27, hvr7_28, hvr7_29]) (by kernel_rfl)
                  clear hI hvr7_0 hvr7_1 hvr7_2 hvr7_3 hvr7_4 hvr7_5 hvr7_6 hvr7_7 hvr7_8 hvr7_9 hvr7_10 hvr7_11 hvr7_12 hvr7_13 hvr7_14 hvr7_15 hvr7_16 hvr7_17 hvr7_18 hvr7_19 hvr7_20 hvr7_21 hvr7_22 hvr7_23 hvr7_24 hvr7_25 hvr7_26 hvr7_27 hvr7_28 hvr7_29
                  subst ha
                  simp only [List.foldl_cons, List.foldl_nil, List.setIfInBounds_toArray, List.set_cons_zero, List.set_cons_succ]
                  have Bxr0y0_7 := Lib.hid (hupd.blk (show Blk ws6_0.drew br0_0 23 (numsA .u8 a) from Bxr0y0_s6_0.out) (fun h => h))
                  have Bxr0y1_7 := Lib.hid (hupd.blk (show Blk ws6_0.drew br0_1 23 (numsA .u8 b) from Bxr0y1_s6_0.out) (fun h => h))
                  have Bxr0y2_7 := Lib.hid (hupd.blk (show Blk ws6_0.drew br0_2 23 (numsA .u8 u) from Bxr0y2_s6_0.out) (fun h => h))
                  have Bxr2y1_7 := Lib.hid (hupd.blk (show Blk ws6_0.drew br2_1 23 (numsA .u8 (u.set 31 (bits .xor .u8 (u.getD 31 0) 128))) from Bxr2y1_s6_0.out) (fun h => h))
                  have Bxr4y1_7 := Lib.hid (hupd.blk (show Blk ws6_0.drew br4_1 23 (numsA .u8 ((a.set 0 (bits .xor .u8 (a.getD 0 0) 5)).set 31 (bits .xor .u8 ((a.set 0 (bits .xor .u8 (a.getD 0 0) 5)).getD 31 0) 192))) from Bxr4y1_s6_0.out) (fun h => h))
                  have HU7 := Lib.hid (HU6_0.out.drew.trans hupd)
                  clear hupd
                  refine wpAny_done (by kernel_rfl) ?_ _
                  refine hK8 _ _ ?_
                  clear hK8
                  refine wp_ret ?_
                  try dsimp only [Exit.then]
                  try dsimp only [Exit.inBlock]
                  exact bodyPost_ret (v := .bool true) (results_tmpQ (fn := Tryd.f6) (t := 6) rfl _ _ (.bool true) rfl) rfl ⟨rfl, HU7.out⟩
end Go.Proofs.YtdpafemcpbhlfaaDoor
