/-
  Walks of point: Decode, case by case.
-/
import Derived.Test.YtdpafemcpbhlfaaDoorPt2
namespace Go.Proofs.YtdpafemcpbhlfaaDoor
set_option maxRecDepth 100000
open Go.RowKit

set_option maxHeartbeats 4000000 in
theorem decodeA {k : List Int} (w : World) (hT : Tw w) (hl : k.length = 32) (hd : Digs 256 k) (hc : canonB (k.set 31 (bits .andNot .u8 (k.getD 31 0) 128)) = false) :
    Calls Tryd.prog 24 #[.agg (numsA .u8 k)] w (RetCV 5 RE [0, 0, 0, 0] (.int .i64 60) w) := by
  have HT := Lib.hid hT
  clear hT
  have HU := Lib.hid (Upd.refl (fun _ => False) w)
  go_enter Tryd.func24, Tryd.ntmps24
  refine wp_seq_k fun K0 hK0 => ?_
  refine wp_region_qS 3 #[true, true, true] [] ([.blk ptrTo 23 (fun z => z = numsA .u8 k), .blk ptrTo 41 (Ch 5 RE [0, 0, 0, 0]), .val (.int .i64 0)] : List SQ) (by kernel_rfl) (by kernel_rfl) (by kernel_rfl) ?_ ?_
  · intro i o listed an wn ho hls hst hun hdep hI hpre K' hK'
    have hi : i = 0 ∨ i = 1 ∨ i = 2 ∨ False := slot_cases (l := [0, 1, 2]) rfl ho hst
    rcases hi with rfl | rfl | rfl | hi
    · obtain rfl := Option.some.inj ho
      have hvp : an.eval (.tmp 0) = .agg (numsA .u8 k) := hI.oldQ (by kernel_rfl) rfl
      exact hI.newQ (by kernel_rfl) hls (Nat.le_refl _) (newsQ_spec (l := [0, 1]) (by kernel_rfl) ⟨⟨_, _, rfl⟩, ⟨_, _, rfl⟩, trivial⟩) rfl rfl rfl 23 _ (fun z => z = numsA .u8 k) (run_boxQ rfl hvp wn) rfl rfl hK'
    · obtain rfl := Option.some.inj ho
      exact hI.newQ (by kernel_rfl) hls (Nat.le_refl _) (newsQ_spec (l := [0, 1]) (by kernel_rfl) ⟨⟨_, _, rfl⟩, ⟨_, _, rfl⟩, trivial⟩) rfl rfl rfl 41 zPt _ (run_allocQ rfl zPt_run wn) rfl zPt_ch hK'
    · obtain rfl := Option.some.inj ho
      exact hI.pureQ (by kernel_rfl) hls rfl rfl rfl (.int .i64 0) (run_moveQ (.inr rfl) (show an.eval (.const (.int .i64 0)) = .int .i64 0 from rfl) wn) (.val (.int .i64 0)) rfl rfl rfl hK'
    · exact hi.elim
  · intro an w1 hI
    obtain ⟨vr0_0, hvr0_0, br0_0, zr0_0, rfl, hnr0_0, hbr0_0, hzr0_0⟩ := hI.haveQ 0 _ 1 (.blk ptrTo 23 (fun z => z = numsA .u8 k)) rfl rfl rfl rfl
    rw [hzr0_0] at hbr0_0
    clear hzr0_0
    obtain ⟨vr0_1, hvr0_1, br0_1, zr0_1, rfl, hnr0_1, hbr0_1, hzr0_1⟩ := hI.haveQ 1 _ 2 (.blk ptrTo 41 (Ch 5 RE [0, 0, 0, 0])) rfl rfl rfl rfl
    obtain ⟨vr0_2, hvr0_2, hsr0_2⟩ := hI.haveQ 2 _ 3 (.val (.int .i64 0)) rfl rfl rfl rfl
    obtain rfl := hsr0_2
    have hupd := hI.upd
    have hner0_0_r0_1 := Lib.hid (show br0_0 ≠ br0_1 from fun e => hI.apart 0 1 _ _ 1 2 (by omega) rfl rfl rfl rfl rfl rfl rfl rfl (by rw [hvr0_0, hvr0_1, e]))
    have ha := hI.act [(1, ptrTo br0_0), (2, ptrTo br0_1), (3, .int .i64 0)] (by simp [hvr0_0, hvr0_1, hvr0_2]) (by kernel_rfl)
    clear hI hvr0_0 hvr0_1 hvr0_2
    subst ha
    simp only [List.foldl_cons, List.foldl_nil, List.setIfInBounds_toArray, List.set_cons_zero, List.set_cons_succ]
    have hger0_0 := Lib.hid (Nat.le_trans HU.out.size hnr0_0)
    have hger0_1 := Lib.hid (Nat.le_trans HU.out.size hnr0_1)
    have Bxr0y0 := Lib.hid hbr0_0
    have Bxr0y1 := Lib.hid hbr0_1
    have HU0 := Lib.hid (HU.out.trans hupd)
    clear hupd
    refine wpOps_nil ?_
    refine hK0 _ _ ?_
    clear hK0
    refine wp_seq_k fun K1 hK1 => ?_
    refine wp_region_qS 5 #[true, true, true, true, true] [] ([.val (.pointer (some ⟨br0_0, 0 + 31, none⟩)), .val (.int .u8 (k.getD 31 0)), .val (.int .u8 (bits .and .u8 (k.getD 31 0) 128)), .val (.bool (decide ((bits .and .u8 (k.getD 31 0) 128) ≠ 0))), .val (.bool (decide ((bits .and .u8 (k.getD 31 0) 128) ≠ 0)))] : List SQ) (by kernel_rfl) (by kernel_rfl) (by kernel_rfl) ?_ ?_
    · intro i o listed an wn ho hls hst hun hdep hI hpre K' hK'
      have hi : i = 0 ∨ i = 1 ∨ i = 2 ∨ i = 3 ∨ i = 4 ∨ False := slot_cases (l := [0, 1, 2, 3, 4]) rfl ho hst
      rcases hi with rfl | rfl | rfl | rfl | rfl | hi
      · obtain rfl := Option.some.inj ho
        have hvp : an.eval (.tmp 1) = ptrTo br0_0 := hI.oldQ (by kernel_rfl) rfl
        exact hI.pureQ (by kernel_rfl) hls rfl rfl rfl (.pointer (some ⟨br0_0, 0 + 31, none⟩)) (run_adr (off := 0) (i := 31) rfl Tryd.underlying23 size5 hvp rfl (by omega) wn) (.val (.pointer (some ⟨br0_0, 0 + 31, none⟩))) rfl rfl rfl hK'
      · obtain rfl := Option.some.inj ho
        obtain ⟨vp, hvp, hsp⟩ := hI.haveQ 0 _ 8 (.val (.pointer (some ⟨br0_0, 0 + 31, none⟩))) rfl rfl rfl (hdep ⟨0, .data⟩ (by simp) rfl)
        obtain rfl := hsp
        exact hI.pureQ (by kernel_rfl) hls rfl rfl rfl (.int .u8 (k.getD 31 0)) (run_cellQ rfl Tryd.underlying5 (eval_of hvp) wn (hI.upd.blk (show Blk w1 br0_0 23 (numsA .u8 k) from Bxr0y0.out) (fun h => h)) (by rw [Nat.zero_add]; exact numsA_get _ _ _ (by rw [hl]; omega))) (.val (.int .u8 (k.getD 31 0))) rfl rfl rfl hK'
      · obtain rfl := Option.some.inj ho
        obtain ⟨vp, hvp, hsp⟩ := hI.haveQ 1 _ 9 (.val (.int .u8 (k.getD 31 0))) rfl rfl rfl (hdep ⟨1, .data⟩ (by simp) rfl)
        obtain rfl := hsp
        exact hI.pureQ (by kernel_rfl) hls rfl rfl rfl (.int .u8 (bits .and .u8 (k.getD 31 0) 128)) (run_andB8 rfl (eval_of hvp) rfl wn) (.val (.int .u8 (bits .and .u8 (k.getD 31 0) 128))) rfl rfl rfl hK'
      · obtain rfl := Option.some.inj ho
        obtain ⟨vp, hvp, hsp⟩ := hI.haveQ 2 _ 10 (.val (.int .u8 (bits .and .u8 (k.getD 31 0) 128))) rfl rfl rfl (hdep ⟨2, .data⟩ (by simp) rfl)
        obtain rfl := hsp
        exact hI.pureQ (by kernel_rfl) hls rfl rfl rfl (.bool (decide ((bits .and .u8 (k.getD 31 0) 128) ≠ 0))) (run_neq rfl (eval_of hvp) rfl rfl wn) (.val (.bool (decide ((bits .and .u8 (k.getD 31 0) 128) ≠ 0)))) rfl rfl rfl hK'
      · obtain rfl := Option.some.inj ho
        obtain ⟨vp, hvp, hsp⟩ := hI.haveQ 3 _ 11 (.val (.bool (decide ((bits .and .u8 (k.getD 31 0) 128) ≠ 0)))) rfl rfl rfl (hdep ⟨3, .data⟩ (by simp) rfl)
        obtain rfl := hsp
        exact hI.pureQ (by kernel_rfl) hls rfl rfl rfl (.bool (decide ((bits .and .u8 (k.getD 31 0) 128) ≠ 0))) (run_moveQ (.inr rfl) (eval_of hvp) wn) (.val (.bool (decide ((bits .and .u8 (k.getD 31 0) 128) ≠ 0)))) rfl rfl rfl hK'
      · exact hi.elim
    · intro an w2 hI
      obtain ⟨vr1_0, hvr1_0, hsr1_0⟩ := hI.haveQ 0 _ 8 (.val (.pointer (some ⟨br0_0, 0 + 31, none⟩))) rfl rfl rfl rfl
      obtain rfl := hsr1_0
      obtain ⟨vr1_1, hvr1_1, hsr1_1⟩ := hI.haveQ 1 _ 9 (.val (.int .u8 (k.getD 31 0))) rfl rfl rfl rfl
      obtain rfl := hsr1_1
      obtain ⟨vr1_2, hvr1_2, hsr1_2⟩ := hI.haveQ 2 _ 10 (.val (.int .u8 (bits .and .u8 (k.getD 31 0) 128))) rfl rfl rfl rfl
      obtain rfl := hsr1_2
      obtain ⟨vr1_3, hvr1_3, hsr1_3⟩ := hI.haveQ 3 _ 11 (.val (.bool (decide ((bits .and .u8 (k.getD 31 0) 128) ≠ 0)))) rfl rfl rfl rfl
      obtain rfl := hsr1_3
      obtain ⟨vr1_4, hvr1_4, hsr1_4⟩ := hI.haveQ 4 _ 4 (.val (.bool (decide ((bits .and .u8 (k.getD 31 0) 128) ≠ 0)))) rfl rfl rfl rfl
      obtain rfl := hsr1_4
      have hupd := hI.upd
      have ha := hI.act [(8, .pointer (some ⟨br0_0, 0 + 31, none⟩)), (9, .int .u8 (k.getD 31 0)), (10, .int .u8 (bits .and .u8 (k.getD 31 0) 128)), (11, .bool (decide ((bits .and .u8 (k.getD 31 0) 128) ≠ 0))), (4, .bool (decide ((bits .and .u8 (k.getD 31 0) 128) ≠ 0)))] (by simp [hvr1_0, hvr1_1, hvr1_2, hvr1_3, hvr1_4]) (by kernel_rfl)
      clear hI hvr1_0 hvr1_1 hvr1_2 hvr1_3 hvr1_4
      subst ha
      simp only [List.foldl_cons, List.foldl_nil, List.setIfInBounds_toArray, List.set_cons_zero, List.set_cons_succ]
      have Bxr0y0_1 := Lib.hid (hupd.blk (show Blk w1 br0_0 23 (numsA .u8 k) from Bxr0y0.out) (fun h => h))
      have Bxr0y1_1 := Lib.hid (hupd.blk (show Blk w1 br0_1 41 zr0_1 from Bxr0y1.out) (fun h => h))
      have HU1 := Lib.hid (HU0.out.trans hupd)
      clear hupd
      refine wpOps_nil ?_
      refine hK1 _ _ ?_
      clear hK1
      refine wp_seq_k fun K2 hK2 => ?_
      refine wp_region_qS 4 #[true, true, true, true, false] [4] ([.val (.pointer (some ⟨br0_0, 0 + 31, none⟩)), .val (.int .u8 (k.getD 31 0)), .val (.int .u8 (bits .andNot .u8 (k.getD 31 0) 128)), .val (.pointer (some ⟨br0_0, 0 + 31, none⟩)), .val undef] : List SQ) (by kernel_rfl) (by kernel_rfl) (by kernel_rfl) ?_ ?_
      · intro i o listed an wn ho hls hst hun hdep hI hpre K' hK'
        have hi : i = 0 ∨ i = 1 ∨ i = 2 ∨ i = 3 ∨ False := slot_cases (l := [0, 1, 2, 3]) rfl ho hst
        rcases hi with rfl | rfl | rfl | rfl | hi
        · obtain rfl := Option.some.inj ho
          have hvp : an.eval (.tmp 1) = ptrTo br0_0 := hI.oldQ (by kernel_rfl) rfl
          exact hI.pureQ (by kernel_rfl) hls rfl rfl rfl (.pointer (some ⟨br0_0, 0 + 31, none⟩)) (run_adr (off := 0) (i := 31) rfl Tryd.underlying23 size5 hvp rfl (by omega) wn) (.val (.pointer (some ⟨br0_0, 0 + 31, none⟩))) rfl rfl rfl hK'
        · obtain rfl := Option.some.inj ho
          obtain ⟨vp, hvp, hsp⟩ := hI.haveQ 0 _ 12 (.val (.pointer (some ⟨br0_0, 0 + 31, none⟩))) rfl rfl rfl (hdep ⟨0, .data⟩ (by simp) rfl)
          obtain rfl := hsp
          exact hI.pureQ (by kernel_rfl) hls rfl rfl rfl (.int .u8 (k.getD 31 0)) (run_cellQ rfl Tryd.underlying5 (eval_of hvp) wn (hI.upd.blk (show Blk w2 br0_0 23 (numsA .u8 k) from Bxr0y0_1.out) (fun h => h)) (by rw [Nat.zero_add]; exact numsA_get _ _ _ (by rw [hl]; omega))) (.val (.int .u8 (k.getD 31 0))) rfl rfl rfl hK'
        · obtain rfl := Option.some.inj ho
          obtain ⟨vp, hvp, hsp⟩ := hI.haveQ 1 _ 13 (.val (.int .u8 (k.getD 31 0))) rfl rfl rfl (hdep ⟨1, .data⟩ (by simp) rfl)
          obtain rfl := hsp
          exact hI.pureQ (by kernel_rfl) hls rfl rfl rfl (.int .u8 (bits .andNot .u8 (k.getD 31 0) 128)) (run_andNot8 rfl (eval_of hvp) rfl wn) (.val (.int .u8 (bits .andNot .u8 (k.getD 31 0) 128))) rfl rfl rfl hK'
        · obtain rfl := Option.some.inj ho
          have hvp : an.eval (.tmp 1) = ptrTo br0_0 := hI.oldQ (by kernel_rfl) rfl
          exact hI.pureQ (by kernel_rfl) hls rfl rfl rfl (.pointer (some ⟨br0_0, 0 + 31, none⟩)) (run_adr (off := 0) (i := 31) rfl Tryd.underlying23 size5 hvp rfl (by omega) wn) (.val (.pointer (some ⟨br0_0, 0 + 31, none⟩))) rfl rfl rfl hK'
        · exact hi.elim
      · intro an w3 hI
        obtain ⟨vr2_0, hvr2_0, hsr2_0⟩ := hI.haveQ 0 _ 12 (.val (.pointer (some ⟨br0_0, 0 + 31, none⟩))) rfl rfl rfl rfl
        obtain rfl := hsr2_0
        obtain ⟨vr2_1, hvr2_1, hsr2_1⟩ := hI.haveQ 1 _ 13 (.val (.int .u8 (k.getD 31 0))) rfl rfl rfl rfl
        obtain rfl := hsr2_1
        obtain ⟨vr2_2, hvr2_2, hsr2_2⟩ := hI.haveQ 2 _ 14 (.val (.int .u8 (bits .andNot .u8 (k.getD 31 0) 128))) rfl rfl rfl rfl
        obtain rfl := hsr2_2
        obtain ⟨vr2_3, hvr2_3, hsr2_3⟩ := hI.haveQ 3 _ 15 (.val (.pointer (some ⟨br0_0, 0 + 31, none⟩))) rfl rfl rfl rfl
        obtain rfl := hsr2_3
        have hupd := hI.upd
        have ha := hI.act [(12, .pointer (some ⟨br0_0, 0 + 31, none⟩)), (13, .int .u8 (k.getD 31 0)), (14, .int .u8 (bits .andNot .u8 (k.getD 31 0) 128)), (15, .pointer (some ⟨br0_0, 0 + 31, none⟩))] (by simp [hvr2_0, hvr2_1, hvr2_2, hvr2_3]) (by kernel_rfl)
        clear hI hvr2_0 hvr2_1 hvr2_2 hvr2_3
        subst ha
        simp only [List.foldl_cons, List.foldl_nil, List.setIfInBounds_toArray, List.set_cons_zero, List.set_cons_succ]
        have Bxr0y0_2 := Lib.hid (hupd.blk (show Blk w2 br0_0 23 (numsA .u8 k) from Bxr0y0_1.out) (fun h => h))
        have Bxr0y1_2 := Lib.hid (hupd.blk (show Blk w2 br0_1 41 zr0_1 from Bxr0y1_1.out) (fun h => h))
        have HU2 := Lib.hid (HU1.out.trans hupd)
        clear hupd
        refine wpOps_storeB 4 rfl rfl rfl 5 (.tmp 15) (.tmp 14) rfl size5 br0_0 (0 + 31) rfl (bits .andNot .u8 (k.getD 31 0) 128) rfl 23 k Bxr0y0_2.out (by rw [hl]; omega) ?_
        rw [Nat.zero_add]
        intro ws2_0 hs2_0 hus2_0
        have Bxr0y1_s2_0 := Lib.hid (hus2_0.blk Bxr0y1_2.out (fun e => hner0_0_r0_1.out e.symm))
        have Bxr0y0_s2_0 := Lib.hid hs2_0
        have HU2_0 := Lib.hid (HU2.out.step hus2_0 (fun i hi h => absurd hi (Nat.not_lt.2 (h.symm ▸ hger0_0.out))))
        clear hs2_0 hus2_0
        refine wpOps_nil ?_
        refine hK2 _ _ ?_
        clear hK2
        refine wp_seq_k fun K3 hK3 => ?_
        refine wp_seq_k fun K4 hK4 => ?_
        refine wp_region_qS 3 #[true, true, true] [] ([.val (.agg (numsA .u8 (k.set 31 (bits .andNot .u8 (k.getD 31 0) 128)))), .val (.bool false), .val (.bool true)] : List SQ) (by kernel_rfl) (by kernel_rfl) (by kernel_rfl) ?_ ?_
        · intro i o listed an wn ho hls hst hun hdep hI hpre K' hK'
          have hi : i = 0 ∨ i = 1 ∨ i = 2 ∨ False := slot_cases (l := [0, 1, 2]) rfl ho hst
          rcases hi with rfl | rfl | rfl | hi
          · obtain rfl := Option.some.inj ho
            have hvp : an.eval (.tmp 1) = ptrTo br0_0 := hI.oldQ (by kernel_rfl) rfl
            exact hI.pureQ (by kernel_rfl) hls rfl rfl rfl _ (run_loadQ rfl hvp wn (hI.upd.blk (show Blk ws2_0 br0_0 23 (numsA .u8 (k.set 31 (bits .andNot .u8 (k.getD 31 0) 128))) from Bxr0y0_s2_0.out) (fun h => h)) Tryd.underlying23 rfl sizeKey (by rw [numsA_size, (set_length hl _ _)]; omega)) (.val (.agg (numsA .u8 (k.set 31 (bits .andNot .u8 (k.getD 31 0) 128))))) rfl (congrArg Value.agg (extract_all _ 32 (by rw [numsA_size]; exact (set_length hl _ _)))) rfl hK'
          · obtain rfl := Option.some.inj ho
            obtain ⟨vp, hvp, hsp⟩ := hI.haveQ 0 _ 16 (.val (.agg (numsA .u8 (k.set 31 (bits .andNot .u8 (k.getD 31 0) 128))))) rfl rfl rfl (hdep ⟨0, .data⟩ (by simp) rfl)
            obtain rfl := hsp
            exact hI.callQ (by kernel_rfl) hls rfl rfl rfl 60 #[.tmp 16] _ rfl #[.agg (numsA .u8 (k.set 31 (bits .andNot .u8 (k.getD 31 0) 128)))] (by simp [eval_of hvp]) (run_enter Tryd.func60 (by kernel_rfl) (by kernel_rfl)) (.val (.bool false)) rfl rfl ((canonicalE (k.set 31 (bits .andNot .u8 (k.getD 31 0) 128)) (set_length hl _ _) (digs_set hd _ _ (andNot8_bnd _ _ (Digs.get (B := 256) (by decide) hd _) (by decide)).1 (andNot8_bnd _ _ (Digs.get (B := 256) (by decide) hd _) (by decide)).2)).mono fun _ _ h => ret_val (ret_b h hc)) hK'
          · obtain rfl := Option.some.inj ho
            obtain ⟨vp, hvp, hsp⟩ := hI.haveQ 1 _ 17 (.val (.bool false)) rfl rfl rfl (hdep ⟨1, .data⟩ (by simp) rfl)
            obtain rfl := hsp
            exact hI.pureQ (by kernel_rfl) hls rfl rfl rfl (.bool true) (run_not rfl (eval_of hvp) wn) (.val (.bool true)) rfl rfl rfl hK'
          · exact hi.elim
        · intro an w4 hI
          obtain ⟨vr3_0, hvr3_0, hsr3_0⟩ := hI.haveQ 0 _ 16 (.val (.agg (numsA .u8 (k.set 31 (bits .andNot .u8 (k.getD 31 0) 128))))) rfl rfl rfl rfl
          obtain rfl := hsr3_0
          obtain ⟨vr3_1, hvr3_1, hsr3_1⟩ := hI.haveQ 1 _ 17 (.val (.bool false)) rfl rfl rfl rfl
          obtain rfl := hsr3_1
          obtain ⟨vr3_2, hvr3_2, hsr3_2⟩ := hI.haveQ 2 _ 18 (.val (.bool true)) rfl rfl rfl rfl
          obtain rfl := hsr3_2
          have hupd := hI.upd
          have ha := hI.act [(16, .agg (numsA .u8 (k.set 31 (bits .andNot .u8 (k.getD 31 0) 128)))), (17, .bool false), (18, .bool true)] (by simp [hvr3_0, hvr3_1, hvr3_2]) (by kernel_rfl)
          clear hI hvr3_0 hvr3_1 hvr3_2
          subst ha
          simp only [List.foldl_cons, List.foldl_nil, List.setIfInBounds_toArray, List.set_cons_zero, List.set_cons_succ]
          have Bxr0y0_3 := Lib.hid (hupd.blk (show Blk ws2_0 br0_0 23 (numsA .u8 (k.set 31 (bits .andNot .u8 (k.getD 31 0) 128))) from Bxr0y0_s2_0.out) (fun h => h))
          have Bxr0y1_3 := Lib.hid (hupd.blk (show Blk ws2_0 br0_1 41 zr0_1 from Bxr0y1_s2_0.out) (fun h => h))
          have HU3 := Lib.hid (HU2_0.out.trans hupd)
          clear hupd
          refine wpOps_nil ?_
          refine hK4 _ _ ?_
          clear hK4
          refine wp_cond_true rfl ?_
          refine wp_seq_k fun K5 hK5 => ?_
          refine wp_region_qS 1 #[true, false, false] [1, 2] ([.val (.agg zPt), .val undef, .val undef] : List SQ) (by kernel_rfl) (by kernel_rfl) (by kernel_rfl) ?_ ?_
          · intro i o listed an wn ho hls hst hun hdep hI hpre K' hK'
            have hi : i = 0 ∨ False := slot_cases (l := [0]) rfl ho hst
            rcases hi with rfl | hi
            · obtain rfl := Option.some.inj ho
              exact hI.pureQ (by kernel_rfl) hls rfl rfl rfl (.agg zPt) (run_buildPt0 rfl wn) (.val (.agg zPt)) rfl rfl rfl hK'
            · exact hi.elim
          · intro an w5 hI
            obtain ⟨vr4_0, hvr4_0, hsr4_0⟩ := hI.haveQ 0 _ 19 (.val (.agg zPt)) rfl rfl rfl rfl
            obtain rfl := hsr4_0
            have hupd := hI.upd
            have ha := hI.act [(19, .agg zPt)] (by simp [hvr4_0]) (by kernel_rfl)
            clear hI hvr4_0
            subst ha
            simp only [List.foldl_cons, List.foldl_nil, List.setIfInBounds_toArray, List.set_cons_zero, List.set_cons_succ]
            have Bxr0y0_4 := Lib.hid (hupd.blk (show Blk w4 br0_0 23 (numsA .u8 (k.set 31 (bits .andNot .u8 (k.getD 31 0) 128))) from Bxr0y0_3.out) (fun h => h))
            have Bxr0y1_4 := Lib.hid (hupd.blk (show Blk w4 br0_1 41 zr0_1 from Bxr0y1_3.out) (fun h => h))
            have HU4 := Lib.hid (HU3.out.trans hupd)
            clear hupd
            refine wpOps_storeQ 1 rfl rfl rfl 41 (.tmp 2) (.tmp 19) rfl br0_1 0 20 rfl zPt rfl 41 zr0_1 Bxr0y1_4.out szPt zPt_ch.size (by rw [hzr0_1.size]; exact Nat.le_of_ble_eq_true rfl) zPt_ch.one' ?_
            intro ws4_0 hs4_0 hus4_0
            rw [splice_all _ _ 20 hzr0_1.size zPt_ch.size] at hs4_0
            have Bxr0y0_s4_0 := Lib.hid (hus4_0.blk Bxr0y0_4.out (fun e => hner0_0_r0_1.out e))
            have Bxr0y1_s4_0 := Lib.hid hs4_0
            have HU4_0 := Lib.hid (HU4.out.step hus4_0 (fun i hi h => absurd hi (Nat.not_lt.2 (h.symm ▸ hger0_1.out))))
            clear hs4_0 hus4_0
            refine wpOps_pureQ 2 rfl rfl 3 rfl (.int .i64 60) (run_moveQ (x := .const (.int .i64 60)) (v := .int .i64 60) (.inr rfl) rfl _) ?_
            simp only [List.setIfInBounds_toArray, List.set_cons_zero, List.set_cons_succ]
            refine wpOps_nil ?_
            refine hK5 _ _ ?_
            clear hK5
            refine wp_ret ?_
            try dsimp only [Exit.then]
            try dsimp only [Exit.inBlock]
            exact bodyPost_ret (v := .tuple #[.agg zPt, .int .i64 60]) (results_cell_tmpQ (fn := Tryd.f24) (p := 2) (q := 3) (ty := 41) rfl _ _ br0_1 zPt (.int .i64 60) rfl rfl Bxr0y1_s4_0.out Tryd.underlying41 rfl (by rw [zPt_ch.size]; exact szPt)) rfl ⟨_, rfl, zPt_ch, HU4_0.out⟩
set_option maxHeartbeats 4000000 in
theorem decodeB {k : List Int} (w : World) (hT : Tw w) (hl : k.length = 32) (hd : Digs 256 k) (hc : canonB (k.set 31 (bits .andNot .u8 (k.getD 31 0) 128)) = true) (hr : isY (ofKey (k.set 31 (bits .andNot .u8 (k.getD 31 0) 128))) = false) :
    Calls Tryd.prog 24 #[.agg (numsA .u8 k)] w (RetCV 5 RE [0, 0, 0, 0] (.int .i64 60) w) := by
  have HT := Lib.hid hT
  clear hT
  have HU := Lib.hid (Upd.refl (fun _ => False) w)
  go_enter Tryd.func24, Tryd.ntmps24
  refine wp_seq_k fun K0 hK0 => ?_
  refine wp_region_qS 3 #[true, true, true] [] ([.blk ptrTo 23 (fun z => z = numsA .u8 k), .blk ptrTo 41 (Ch 5 RE [0, 0, 0, 0]), .val (.int .i64 0)] : List SQ) (by kernel_rfl) (by kernel_rfl) (by kernel_rfl) ?_ ?_
  · intro i o listed an wn ho hls hst hun hdep hI hpre K' hK'
    have hi : i = 0 ∨ i = 1 ∨ i = 2 ∨ False := slot_cases (l := [0, 1, 2]) rfl ho hst
    rcases hi with rfl | rfl | rfl | hi
    · obtain rfl := Option.some.inj ho
      have hvp : an.eval (.tmp 0) = .agg (numsA .u8 k) := hI.oldQ (by kernel_rfl) rfl
      exact hI.newQ (by kernel_rfl) hls (Nat.le_refl _) (newsQ_spec (l := [0, 1]) (by kernel_rfl) ⟨⟨_, _, rfl⟩, ⟨_, _, rfl⟩, trivial⟩) rfl rfl rfl 23 _ (fun z => z = numsA .u8 k) (run_boxQ rfl hvp wn) rfl rfl hK'
    · obtain rfl := Option.some.inj ho
      exact hI.newQ (by kernel_rfl) hls (Nat.le_refl _) (newsQ_spec (l := [0, 1]) (by kernel_rfl) ⟨⟨_, _, rfl⟩, ⟨_, _, rfl⟩, trivial⟩) rfl rfl rfl 41 zPt _ (run_allocQ rfl zPt_run wn) rfl zPt_ch hK'
    · obtain rfl := Option.some.inj ho
      exact hI.pureQ (by kernel_rfl) hls rfl rfl rfl (.int .i64 0) (run_moveQ (.inr rfl) (show an.eval (.const (.int .i64 0)) = .int .i64 0 from rfl) wn) (.val (.int .i64 0)) rfl rfl rfl hK'
    · exact hi.elim
  · intro an w1 hI
    obtain ⟨vr0_0, hvr0_0, br0_0, zr0_0, rfl, hnr0_0, hbr0_0, hzr0_0⟩ := hI.haveQ 0 _ 1 (.blk ptrTo 23 (fun z => z = numsA .u8 k)) rfl rfl rfl rfl
    rw [hzr0_0] at hbr0_0
    clear hzr0_0
    obtain ⟨vr0_1, hvr0_1, br0_1, zr0_1, rfl, hnr0_1, hbr0_1, hzr0_1⟩ := hI.haveQ 1 _ 2 (.blk ptrTo 41 (Ch 5 RE [0, 0, 0, 0])) rfl rfl rfl rfl
    obtain ⟨vr0_2, hvr0_2, hsr0_2⟩ := hI.haveQ 2 _ 3 (.val (.int .i64 0)) rfl rfl rfl rfl
    obtain rfl := hsr0_2
    have hupd := hI.upd
    have hner0_0_r0_1 := Lib.hid (show br0_0 ≠ br0_1 from fun e => hI.apart 0 1 _ _ 1 2 (by omega) rfl rfl rfl rfl rfl rfl rfl rfl (by rw [hvr0_0, hvr0_1, e]))
    have ha := hI.act [(1, ptrTo br0_0), (2, ptrTo br0_1), (3, .int .i64 0)] (by simp [hvr0_0, hvr0_1, hvr0_2]) (by kernel_rfl)
    clear hI hvr0_0 hvr0_1 hvr0_2
    subst ha
    simp only [List.foldl_cons, List.foldl_nil, List.setIfInBounds_toArray, List.set_cons_zero, List.set_cons_succ]
    have hger0_0 := Lib.hid (Nat.le_trans HU.out.size hnr0_0)
    have hger0_1 := Lib.hid (Nat.le_trans HU.out.size hnr0_1)
    have Bxr0y0 := Lib.hid hbr0_0
    have Bxr0y1 := Lib.hid hbr0_1
    have HU0 := Lib.hid (HU.out.trans hupd)
    clear hupd
    refine wpOps_nil ?_
    refine hK0 _ _ ?_
    clear hK0
    refine wp_seq_k fun K1 hK1 => ?_
    refine wp_region_qS 5 #[true, true, true, true, true] [] ([.val (.pointer (some ⟨br0_0, 0 + 31, none⟩)), .val (.int .u8 (k.getD 31 0)), .val (.int .u8 (bits .and .u8 (k.getD 31 0) 128)), .val (.bool (decide ((bits .and .u8 (k.getD 31 0) 128) ≠ 0))), .val (.bool (decide ((bits .and .u8 (k.getD 31 0) 128) ≠ 0)))] : List SQ) (by kernel_rfl) (by kernel_rfl) (by kernel_rfl) ?_ ?_
    · intro i o listed an wn ho hls hst hun hdep hI hpre K' hK'
      have hi : i = 0 ∨ i = 1 ∨ i = 2 ∨ i = 3 ∨ i = 4 ∨ False := slot_cases (l := [0, 1, 2, 3, 4]) rfl ho hst
      rcases hi with rfl | rfl | rfl | rfl | rfl | hi
      · obtain rfl := Option.some.inj ho
        have hvp : an.eval (.tmp 1) = ptrTo br0_0 := hI.oldQ (by kernel_rfl) rfl
        exact hI.pureQ (by kernel_rfl) hls rfl rfl rfl (.pointer (some ⟨br0_0, 0 + 31, none⟩)) (run_adr (off := 0) (i := 31) rfl Tryd.underlying23 size5 hvp rfl (by omega) wn) (.val (.pointer (some ⟨br0_0, 0 + 31, none⟩))) rfl rfl rfl hK'
      · obtain rfl := Option.some.inj ho
        obtain ⟨vp, hvp, hsp⟩ := hI.haveQ 0 _ 8 (.val (.pointer (some ⟨br0_0, 0 + 31, none⟩))) rfl rfl rfl (hdep ⟨0, .data⟩ (by simp) rfl)
        obtain rfl := hsp
        exact hI.pureQ (by kernel_rfl) hls rfl rfl rfl (.int .u8 (k.getD 31 0)) (run_cellQ rfl Tryd.underlying5 (eval_of hvp) wn (hI.upd.blk (show Blk w1 br0_0 23 (numsA .u8 k) from Bxr0y0.out) (fun h => h)) (by rw [Nat.zero_add]; exact numsA_get _ _ _ (by rw [hl]; omega))) (.val (.int .u8 (k.getD 31 0))) rfl rfl rfl hK'
      · obtain rfl := Option.some.inj ho
        obtain ⟨vp, hvp, hsp⟩ := hI.haveQ 1 _ 9 (.val (.int .u8 (k.getD 31 0))) rfl rfl rfl (hdep ⟨1, .data⟩ (by simp) rfl)
        obtain rfl := hsp
        exact hI.pureQ (by kernel_rfl) hls rfl rfl rfl (.int .u8 (bits .and .u8 (k.getD 31 0) 128)) (run_andB8 rfl (eval_of hvp) rfl wn) (.val (.int .u8 (bits .and .u8 (k.getD 31 0) 128))) rfl rfl rfl hK'
      · obtain rfl := Option.some.inj ho
        obtain ⟨vp, hvp, hsp⟩ := hI.haveQ 2 _ 10 (.val (.int .u8 (bits .and .u8 (k.getD 31 0) 128))) rfl rfl rfl (hdep ⟨2, .data⟩ (by simp) rfl)
        obtain rfl := hsp
        exact hI.pureQ (by kernel_rfl) hls rfl rfl rfl (.bool (decide ((bits .and .u8 (k.getD 31 0) 128) ≠ 0))) (run_neq rfl (eval_of hvp) rfl rfl wn) (.val (.bool (decide ((bits .and .u8 (k.getD 31 0) 128) ≠ 0)))) rfl rfl rfl hK'
      · obtain rfl := Option.some.inj ho
        obtain ⟨vp, hvp, hsp⟩ := hI.haveQ 3 _ 11 (.val (.bool (decide ((bits .and .u8 (k.getD 31 0) 128) ≠ 0)))) rfl rfl rfl (hdep ⟨3, .data⟩ (by simp) rfl)
        obtain rfl := hsp
        exact hI.pureQ (by kernel_rfl) hls rfl rfl rfl (.bool (decide ((bits .and .u8 (k.getD 31 0) 128) ≠ 0))) (run_moveQ (.inr rfl) (eval_of hvp) wn) (.val (.bool (decide ((bits .and .u8 (k.getD 31 0) 128) ≠ 0)))) rfl rfl rfl hK'
      · exact hi.elim
    · intro an w2 hI
      obtain ⟨vr1_0, hvr1_0, hsr1_0⟩ := hI.haveQ 0 _ 8 (.val (.pointer (some ⟨br0_0, 0 + 31, none⟩))) rfl rfl rfl rfl
      obtain rfl := hsr1_0
      obtain ⟨vr1_1, hvr1_1, hsr1_1⟩ := hI.haveQ 1 _ 9 (.val (.int .u8 (k.getD 31 0))) rfl rfl rfl rfl
      obtain rfl := hsr1_1
      obtain ⟨vr1_2, hvr1_2, hsr1_2⟩ := hI.haveQ 2 _ 10 (.val (.int .u8 (bits .and .u8 (k.getD 31 0) 128))) rfl rfl rfl rfl
      obtain rfl := hsr1_2
      obtain ⟨vr1_3, hvr1_3, hsr1_3⟩ := hI.haveQ 3 _ 11 (.val (.bool (decide ((bits .and .u8 (k.getD 31 0) 128) ≠ 0)))) rfl rfl rfl rfl
      obtain rfl := hsr1_3
      obtain ⟨vr1_4, hvr1_4, hsr1_4⟩ := hI.haveQ 4 _ 4 (.val (.bool (decide ((bits .and .u8 (k.getD 31 0) 128) ≠ 0)))) rfl rfl rfl rfl
      obtain rfl := hsr1_4
      have hupd := hI.upd
      have ha := hI.act [(8, .pointer (some ⟨br0_0, 0 + 31, none⟩)), (9, .int .u8 (k.getD 31 0)), (10, .int .u8 (bits .and .u8 (k.getD 31 0) 128)), (11, .bool (decide ((bits .and .u8 (k.getD 31 0) 128) ≠ 0))), (4, .bool (decide ((bits .and .u8 (k.getD 31 0) 128) ≠ 0)))] (by simp [hvr1_0, hvr1_1, hvr1_2, hvr1_3, hvr1_4]) (by kernel_rfl)
      clear hI hvr1_0 hvr1_1 hvr1_2 hvr1_3 hvr1_4
      subst ha
      simp only [List.foldl_cons, List.foldl_nil, List.setIfInBounds_toArray, List.set_cons_zero, List.set_cons_succ]
      have Bxr0y0_1 := Lib.hid (hupd.blk (show Blk w1 br0_0 23 (numsA .u8 k) from Bxr0y0.out) (fun h => h))
      have Bxr0y1_1 := Lib.hid (hupd.blk (show Blk w1 br0_1 41 zr0_1 from Bxr0y1.out) (fun h => h))
      have HU1 := Lib.hid (HU0.out.trans hupd)
      clear hupd
      refine wpOps_nil ?_
      refine hK1 _ _ ?_
      clear hK1
      refine wp_seq_k fun K2 hK2 => ?_
      refine wp_region_qS 4 #[true, true, true, true, false] [4] ([.val (.pointer (some ⟨br0_0, 0 + 31, none⟩)), .val (.int .u8 (k.getD 31 0)), .val (.int .u8 (bits .andNot .u8 (k.getD 31 0) 128)), .val (.pointer (some ⟨br0_0, 0 + 31, none⟩)), .val undef] : List SQ) (by kernel_rfl) (by kernel_rfl) (by kernel_rfl) ?_ ?_
      · intro i o listed an wn ho hls hst hun hdep hI hpre K' hK'
        have hi : i = 0 ∨ i = 1 ∨ i = 2 ∨ i = 3 ∨ False := slot_cases (l := [0, 1, 2, 3]) rfl ho hst
        rcases hi with rfl | rfl | rfl | rfl | hi
        · obtain rfl := Option.some.inj ho
          have hvp : an.eval (.tmp 1) = ptrTo br0_0 := hI.oldQ (by kernel_rfl) rfl
          exact hI.pureQ (by kernel_rfl) hls rfl rfl rfl (.pointer (some ⟨br0_0, 0 + 31, none⟩)) (run_adr (off := 0) (i := 31) rfl Tryd.underlying23 size5 hvp rfl (by omega) wn) (.val (.pointer (some ⟨br0_0, 0 + 31, none⟩))) rfl rfl rfl hK'
        · obtain rfl := Option.some.inj ho
          obtain ⟨vp, hvp, hsp⟩ := hI.haveQ 0 _ 12 (.val (.pointer (some ⟨br0_0, 0 + 31, none⟩))) rfl rfl rfl (hdep ⟨0, .data⟩ (by simp) rfl)
          obtain rfl := hsp
          exact hI.pureQ (by kernel_rfl) hls rfl rfl rfl (.int .u8 (k.getD 31 0)) (run_cellQ rfl Tryd.underlying5 (eval_of hvp) wn (hI.upd.blk (show Blk w2 br0_0 23 (numsA .u8 k) from Bxr0y0_1.out) (fun h => h)) (by rw [Nat.zero_add]; exact numsA_get _ _ _ (by rw [hl]; omega))) (.val (.int .u8 (k.getD 31 0))) rfl rfl rfl hK'
        · obtain rfl := Option.some.inj ho
          obtain ⟨vp, hvp, hsp⟩ := hI.haveQ 1 _ 13 (.val (.int .u8 (k.getD 31 0))) rfl rfl rfl (hdep ⟨1, .data⟩ (by simp) rfl)
          obtain rfl := hsp
          exact hI.pureQ (by kernel_rfl) hls rfl rfl rfl (.int .u8 (bits .andNot .u8 (k.getD 31 0) 128)) (run_andNot8 rfl (eval_of hvp) rfl wn) (.val (.int .u8 (bits .andNot .u8 (k.getD 31 0) 128))) rfl rfl rfl hK'
        · obtain rfl := Option.some.inj ho
          have hvp : an.eval (.tmp 1) = ptrTo br0_0 := hI.oldQ (by kernel_rfl) rfl
          exact hI.pureQ (by kernel_rfl) hls rfl rfl rfl (.pointer (some ⟨br0_0, 0 + 31, none⟩)) (run_adr (off := 0) (i := 31) rfl Tryd.underlying23 size5 hvp rfl (by omega) wn) (.val (.pointer (some ⟨br0_0, 0 + 31, none⟩))) rfl rfl rfl hK'
        · exact hi.elim
      · intro an w3 hI
        obtain ⟨vr2_0, hvr2_0, hsr2_0⟩ := hI.haveQ 0 _ 12 (.val (.pointer (some ⟨br0_0, 0 + 31, none⟩))) rfl rfl rfl rfl
        obtain rfl := hsr2_0
        obtain ⟨vr2_1, hvr2_1, hsr2_1⟩ := hI.haveQ 1 _ 13 (.val (.int .u8 (k.getD 31 0))) rfl rfl rfl rfl
        obtain rfl := hsr2_1
        obtain ⟨vr2_2, hvr2_2, hsr2_2⟩ := hI.haveQ 2 _ 14 (.val (.int .u8 (bits .andNot .u8 (k.getD 31 0) 128))) rfl rfl rfl rfl
        obtain rfl := hsr2_2
        obtain ⟨vr2_3, hvr2_3, hsr2_3⟩ := hI.haveQ 3 _ 15 (.val (.pointer (some ⟨br0_0, 0 + 31, none⟩))) rfl rfl rfl rfl
        obtain rfl := hsr2_3
        have hupd := hI.upd
        have ha := hI.act [(12, .pointer (some ⟨br0_0, 0 + 31, none⟩)), (13, .int .u8 (k.getD 31 0)), (14, .int .u8 (bits .andNot .u8 (k.getD 31 0) 128)), (15, .pointer (some ⟨br0_0, 0 + 31, none⟩))] (by simp [hvr2_0, hvr2_1, hvr2_2, hvr2_3]) (by kernel_rfl)
        clear hI hvr2_0 hvr2_1 hvr2_2 hvr2_3
        subst ha
        simp only [List.foldl_cons, List.foldl_nil, List.setIfInBounds_toArray, List.set_cons_zero, List.set_cons_succ]
        have Bxr0y0_2 := Lib.hid (hupd.blk (show Blk w2 br0_0 23 (numsA .u8 k) from Bxr0y0_1.out) (fun h => h))
        have Bxr0y1_2 := Lib.hid (hupd.blk (show Blk w2 br0_1 41 zr0_1 from Bxr0y1_1.out) (fun h => h))
        have HU2 := Lib.hid (HU1.out.trans hupd)
        clear hupd
        refine wpOps_storeB 4 rfl rfl rfl 5 (.tmp 15) (.tmp 14) rfl size5 br0_0 (0 + 31) rfl (bits .andNot .u8 (k.getD 31 0) 128) rfl 23 k Bxr0y0_2.out (by rw [hl]; omega) ?_
        rw [Nat.zero_add]
        intro ws2_0 hs2_0 hus2_0
        have Bxr0y1_s2_0 := Lib.hid (hus2_0.blk Bxr0y1_2.out (fun e => hner0_0_r0_1.out e.symm))
        have Bxr0y0_s2_0 := Lib.hid hs2_0
        have HU2_0 := Lib.hid (HU2.out.step hus2_0 (fun i hi h => absurd hi (Nat.not_lt.2 (h.symm ▸ hger0_0.out))))
        clear hs2_0 hus2_0
        refine wpOps_nil ?_
        refine hK2 _ _ ?_
        clear hK2
        refine wp_seq_k fun K3 hK3 => ?_
        refine wp_seq_k fun K4 hK4 => ?_
        refine wp_region_qS 3 #[true, true, true] [] ([.val (.agg (numsA .u8 (k.set 31 (bits .andNot .u8 (k.getD 31 0) 128)))), .val (.bool true), .val (.bool false)] : List SQ) (by kernel_rfl) (by kernel_rfl) (by kernel_rfl) ?_ ?_
        · intro i o listed an wn ho hls hst hun hdep hI hpre K' hK'
          have hi : i = 0 ∨ i = 1 ∨ i = 2 ∨ False := slot_cases (l := [0, 1, 2]) rfl ho hst
          rcases hi with rfl | rfl | rfl | hi
          · obtain rfl := Option.some.inj ho
            have hvp : an.eval (.tmp 1) = ptrTo br0_0 := hI.oldQ (by kernel_rfl) rfl
            exact hI.pureQ (by kernel_rfl) hls rfl rfl rfl _ (run_loadQ rfl hvp wn (hI.upd.blk (show Blk ws2_0 br0_0 23 (numsA .u8 (k.set 31 (bits .andNot .u8 (k.getD 31 0) 128))) from Bxr0y0_s2_0.out) (fun h => h)) Tryd.underlying23 rfl sizeKey (by rw [numsA_size, (set_length hl _ _)]; omega)) (.val (.agg (numsA .u8 (k.set 31 (bits .andNot .u8 (k.getD 31 0) 128))))) rfl (congrArg Value.agg (extract_all _ 32 (by rw [numsA_size]; exact (set_length hl _ _)))) rfl hK'
          · obtain rfl := Option.some.inj ho
            obtain ⟨vp, hvp, hsp⟩ := hI.haveQ 0 _ 16 (.val (.agg (numsA .u8 (k.set 31 (bits .andNot .u8 (k.getD 31 0) 128))))) rfl rfl rfl (hdep ⟨0, .data⟩ (by simp) rfl)
            obtain rfl := hsp
            exact hI.callQ (by kernel_rfl) hls rfl rfl rfl 60 #[.tmp 16] _ rfl #[.agg (numsA .u8 (k.set 31 (bits .andNot .u8 (k.getD 31 0) 128)))] (by simp [eval_of hvp]) (run_enter Tryd.func60 (by kernel_rfl) (by kernel_rfl)) (.val (.bool true)) rfl rfl ((canonicalE (k.set 31 (bits .andNot .u8 (k.getD 31 0) 128)) (set_length hl _ _) (digs_set hd _ _ (andNot8_bnd _ _ (Digs.get (B := 256) (by decide) hd _) (by decide)).1 (andNot8_bnd _ _ (Digs.get (B := 256) (by decide) hd _) (by decide)).2)).mono fun _ _ h => ret_val (ret_b h hc)) hK'
          · obtain rfl := Option.some.inj ho
            obtain ⟨vp, hvp, hsp⟩ := hI.haveQ 1 _ 17 (.val (.bool true)) rfl rfl rfl (hdep ⟨1, .data⟩ (by simp) rfl)
            obtain rfl := hsp
            exact hI.pureQ (by kernel_rfl) hls rfl rfl rfl (.bool false) (run_not rfl (eval_of hvp) wn) (.val (.bool false)) rfl rfl rfl hK'
          · exact hi.elim
        · intro an w4 hI
          obtain ⟨vr3_0, hvr3_0, hsr3_0⟩ := hI.haveQ 0 _ 16 (.val (.agg (numsA .u8 (k.set 31 (bits .andNot .u8 (k.getD 31 0) 128))))) rfl rfl rfl rfl
          obtain rfl := hsr3_0
          obtain ⟨vr3_1, hvr3_1, hsr3_1⟩ := hI.haveQ 1 _ 17 (.val (.bool true)) rfl rfl rfl rfl
          obtain rfl := hsr3_1
          obtain ⟨vr3_2, hvr3_2, hsr3_2⟩ := hI.haveQ 2 _ 18 (.val (.bool false)) rfl rfl rfl rfl
          obtain rfl := hsr3_2
          have hupd := hI.upd
          have ha := hI.act [(16, .agg (numsA .u8 (k.set 31 (bits .andNot .u8 (k.getD 31 0) 128)))), (17, .bool true), (18, .bool false)] (by simp [hvr3_0, hvr3_1, hvr3_2]) (by kernel_rfl)
          clear hI hvr3_0 hvr3_1 hvr3_2
          subst ha
          simp only [List.foldl_cons, List.foldl_nil, List.setIfInBounds_toArray, List.set_cons_zero, List.set_cons_succ]
          have Bxr0y0_3 := Lib.hid (hupd.blk (show Blk ws2_0 br0_0 23 (numsA .u8 (k.set 31 (bits .andNot .u8 (k.getD 31 0) 128))) from Bxr0y0_s2_0.out) (fun h => h))
          have Bxr0y1_3 := Lib.hid (hupd.blk (show Blk ws2_0 br0_1 41 zr0_1 from Bxr0y1_s2_0.out) (fun h => h))
          have HU3 := Lib.hid (HU2_0.out.trans hupd)
          clear hupd
          refine wpOps_nil ?_
          refine hK4 _ _ ?_
          clear hK4
          refine wp_cond_false rfl ?_
          refine wp_skip ?_
          refine hK3 _ _ ?_
          clear hK3
          refine wp_seq_k fun K5 hK5 => ?_
          refine wp_region_qS 3 #[true, true, true, false] [3] ([.val (.agg (numsA .u8 (k.set 31 (bits .andNot .u8 (k.getD 31 0) 128)))), .like (IsC 5 RE [ofKey (k.set 31 (bits .andNot .u8 (k.getD 31 0) 128))]), .blk ptrTo 39 (Ch 5 RE [0]), .val undef] : List SQ) (by kernel_rfl) (by kernel_rfl) (by kernel_rfl) ?_ ?_
          · intro i o listed an wn ho hls hst hun hdep hI hpre K' hK'
            have hi : i = 0 ∨ i = 1 ∨ i = 2 ∨ False := slot_cases (l := [0, 1, 2]) rfl ho hst
            rcases hi with rfl | rfl | rfl | hi
            · obtain rfl := Option.some.inj ho
              have hvp : an.eval (.tmp 1) = ptrTo br0_0 := hI.oldQ (by kernel_rfl) rfl
              exact hI.pureQ (by kernel_rfl) hls rfl rfl rfl _ (run_loadQ rfl hvp wn (hI.upd.blk (show Blk w4 br0_0 23 (numsA .u8 (k.set 31 (bits .andNot .u8 (k.getD 31 0) 128))) from Bxr0y0_3.out) (fun h => h)) Tryd.underlying23 rfl sizeKey (by rw [numsA_size, (set_length hl _ _)]; omega)) (.val (.agg (numsA .u8 (k.set 31 (bits .andNot .u8 (k.getD 31 0) 128))))) rfl (congrArg Value.agg (extract_all _ 32 (by rw [numsA_size]; exact (set_length hl _ _)))) rfl hK'
            · obtain rfl := Option.some.inj ho
              obtain ⟨vp, hvp, hsp⟩ := hI.haveQ 0 _ 20 (.val (.agg (numsA .u8 (k.set 31 (bits .andNot .u8 (k.getD 31 0) 128))))) rfl rfl rfl (hdep ⟨0, .data⟩ (by simp) rfl)
              obtain rfl := hsp
              exact hI.callQ (by kernel_rfl) hls rfl rfl rfl 42 #[.tmp 20] _ rfl #[.agg (numsA .u8 (k.set 31 (bits .andNot .u8 (k.getD 31 0) 128)))] (by simp [eval_of hvp]) (run_enter Tryd.func42 (by kernel_rfl) (by kernel_rfl)) (.like (IsC 5 RE [ofKey (k.set 31 (bits .andNot .u8 (k.getD 31 0) 128))])) rfl rfl ((ofE (k.set 31 (bits .andNot .u8 (k.getD 31 0) 128)) ((set_length hl _ _)) ((digs_set hd _ _ (andNot8_bnd _ _ (Digs.get (B := 256) (by decide) hd _) (by decide)).1 (andNot8_bnd _ _ (Digs.get (B := 256) (by decide) hd _) (by decide)).2))).mono fun _ _ h => h.sq) hK'
            · obtain rfl := Option.some.inj ho
              exact hI.newQ (by kernel_rfl) hls (Nat.le_refl _) (newsQ_spec (l := [2]) (by kernel_rfl) ⟨⟨_, _, rfl⟩, trivial⟩) rfl rfl rfl 39 zE _ (run_allocQ rfl zE_run wn) rfl zE_ch hK'
            · exact hi.elim
          · intro an w5 hI
            obtain ⟨vr4_0, hvr4_0, hsr4_0⟩ := hI.haveQ 0 _ 20 (.val (.agg (numsA .u8 (k.set 31 (bits .andNot .u8 (k.getD 31 0) 128))))) rfl rfl rfl rfl
            obtain rfl := hsr4_0
            obtain ⟨vr4_1, hvr4_1, ar4_1, rfl, hCr4_1⟩ := hI.haveQ 1 _ 21 (.like (IsC 5 RE [ofKey (k.set 31 (bits .andNot .u8 (k.getD 31 0) 128))])) rfl rfl rfl rfl
            obtain ⟨vr4_2, hvr4_2, br4_2, zr4_2, rfl, hnr4_2, hbr4_2, hzr4_2⟩ := hI.haveQ 2 _ 5 (.blk ptrTo 39 (Ch 5 RE [0])) rfl rfl rfl rfl
            have hupd := hI.upd
            have ha := hI.act [(20, .agg (numsA .u8 (k.set 31 (bits .andNot .u8 (k.getD 31 0) 128)))), (21, .agg ar4_1), (5, ptrTo br4_2)] (by simp [hvr4_0, hvr4_1, hvr4_2]) (by kernel_rfl)
            clear hI hvr4_0 hvr4_1 hvr4_2
            subst ha
            simp only [List.foldl_cons, List.foldl_nil, List.setIfInBounds_toArray, List.set_cons_zero, List.set_cons_succ]
            have hner4_2_Bxr0y0_3 := Lib.hid (show br4_2 ≠ br0_0 from Nat.ne_of_gt (Nat.lt_of_lt_of_le Bxr0y0_3.out.lt hnr4_2))
            have hner4_2_Bxr0y1_3 := Lib.hid (show br4_2 ≠ br0_1 from Nat.ne_of_gt (Nat.lt_of_lt_of_le Bxr0y1_3.out.lt hnr4_2))
            have hger4_2 := Lib.hid (Nat.le_trans HU3.out.size hnr4_2)
            have Bxr0y0_4 := Lib.hid (hupd.blk (show Blk w4 br0_0 23 (numsA .u8 (k.set 31 (bits .andNot .u8 (k.getD 31 0) 128))) from Bxr0y0_3.out) (fun h => h))
            have Bxr0y1_4 := Lib.hid (hupd.blk (show Blk w4 br0_1 41 zr0_1 from Bxr0y1_3.out) (fun h => h))
            have Bxr4y2 := Lib.hid hbr4_2
            have HU4 := Lib.hid (HU3.out.trans hupd)
            clear hupd
            refine wpOps_storeQ 3 rfl rfl rfl 39 (.tmp 5) (.tmp 21) rfl br4_2 0 5 rfl ar4_1 rfl 39 zr4_2 Bxr4y2.out szE hCr4_1.size (by rw [hzr4_2.size]; exact Nat.le_of_ble_eq_true rfl) hCr4_1.one' ?_
            intro ws4_0 hs4_0 hus4_0
            rw [splice_all _ _ 5 hzr4_2.size hCr4_1.size] at hs4_0
            have Bxr0y0_s4_0 := Lib.hid (hus4_0.blk Bxr0y0_4.out (fun e => hner4_2_Bxr0y0_3.out e.symm))
            have Bxr0y1_s4_0 := Lib.hid (hus4_0.blk Bxr0y1_4.out (fun e => hner4_2_Bxr0y1_3.out e.symm))
            have Bxr4y2_s4_0 := Lib.hid hs4_0
            have HU4_0 := Lib.hid (HU4.out.step hus4_0 (fun i hi h => absurd hi (Nat.not_lt.2 (h.symm ▸ hger4_2.out))))
            clear hs4_0 hus4_0
            refine wpOps_nil ?_
            refine hK5 _ _ ?_
            clear hK5
            refine wp_seq_k fun K6 hK6 => ?_
            refine wp_region_qS 6 #[true, true, true, true, true, true, false, false] [6, 7] ([.val (.agg ar4_1), .like (IsCV 5 RE [xOf (ofKey (k.set 31 (bits .andNot .u8 (k.getD 31 0) 128)))] (.bool false)), .like (IsCV 5 RE [xOf (ofKey (k.set 31 (bits .andNot .u8 (k.getD 31 0) 128)))] (.bool false)), .like (IsC 5 RE [xOf (ofKey (k.set 31 (bits .andNot .u8 (k.getD 31 0) 128)))]), .val (.bool false), .blk ptrTo 39 (Ch 5 RE [0]), .val undef, .val undef] : List SQ) (by kernel_rfl) (by kernel_rfl) (by kernel_rfl) ?_ ?_
            · intro i o listed an wn ho hls hst hun hdep hI hpre K' hK'
              have hi : i = 0 ∨ i = 1 ∨ i = 2 ∨ i = 3 ∨ i = 4 ∨ i = 5 ∨ False := slot_cases (l := [0, 1, 2, 3, 4, 5]) rfl ho hst
              rcases hi with rfl | rfl | rfl | rfl | rfl | rfl | hi
              · obtain rfl := Option.some.inj ho
                have hvp : an.eval (.tmp 5) = ptrTo br4_2 := hI.oldQ (by kernel_rfl) rfl
                exact hI.pureQ (by kernel_rfl) hls rfl rfl rfl _ (run_loadQ rfl hvp wn (hI.upd.blk (show Blk ws4_0 br4_2 39 ar4_1 from Bxr4y2_s4_0.out) (fun h => h)) Tryd.underlying39 rfl szE (by rw [hCr4_1.size]; exact Nat.le_of_ble_eq_true rfl)) (.val (.agg ar4_1)) rfl (congrArg Value.agg (extract_all _ 5 hCr4_1.size)) rfl hK'
              · obtain rfl := Option.some.inj ho
                obtain ⟨vp, hvp, hsp⟩ := hI.haveQ 0 _ 23 (.val (.agg ar4_1)) rfl rfl rfl (hdep ⟨0, .data⟩ (by simp) rfl)
                obtain rfl := hsp
                exact hI.callQ (by kernel_rfl) hls rfl rfl rfl 61 #[.tmp 23] _ rfl #[.agg ar4_1] (by simp [eval_of hvp]) (run_enter Tryd.func61 (by kernel_rfl) (by kernel_rfl)) (.like (IsCV 5 RE [xOf (ofKey (k.set 31 (bits .andNot .u8 (k.getD 31 0) 128)))] (.bool false))) rfl rfl ((evenXP _ (HT.out.upd (HU4_0.out.trans hI.upd)) hCr4_1 (den_y _)).mono fun _ _ h => (RetCV.bool h hr).sq) hK'
              · obtain rfl := Option.some.inj ho
                obtain ⟨vp, hvp, ap, rfl, hCp⟩ := hI.haveQ 1 _ 24 (.like (IsCV 5 RE [xOf (ofKey (k.set 31 (bits .andNot .u8 (k.getD 31 0) 128)))] (.bool false))) rfl rfl rfl (hdep ⟨1, .data⟩ (by simp) rfl)
                exact hI.pureQ (by kernel_rfl) hls rfl rfl rfl _ (run_moveQ (.inl rfl) (eval_of hvp) wn) (.like (IsCV 5 RE [xOf (ofKey (k.set 31 (bits .andNot .u8 (k.getD 31 0) 128)))] (.bool false))) rfl ⟨_, rfl, hCp⟩ rfl hK'
              · obtain rfl := Option.some.inj ho
                obtain ⟨vp, hvp, ap, rfl, hCp⟩ := hI.haveQ 2 _ 22 (.like (IsCV 5 RE [xOf (ofKey (k.set 31 (bits .andNot .u8 (k.getD 31 0) 128)))] (.bool false))) rfl rfl rfl (hdep ⟨2, .data⟩ (by simp) rfl)
                exact hI.pureQ (by kernel_rfl) hls rfl rfl rfl _ (run_extractQ rfl (eval_of hvp) rfl wn) (.like (IsC 5 RE [xOf (ofKey (k.set 31 (bits .andNot .u8 (k.getD 31 0) 128)))])) rfl ⟨_, rfl, hCp⟩ rfl hK'
              · obtain rfl := Option.some.inj ho
                obtain ⟨vp, hvp, ap, rfl, hCp⟩ := hI.haveQ 2 _ 22 (.like (IsCV 5 RE [xOf (ofKey (k.set 31 (bits .andNot .u8 (k.getD 31 0) 128)))] (.bool false))) rfl rfl rfl (hdep ⟨2, .data⟩ (by simp) rfl)
                exact hI.pureQ (by kernel_rfl) hls rfl rfl rfl (.bool false) (run_extractQ rfl (eval_of hvp) rfl wn) (.val (.bool false)) rfl rfl rfl hK'
              · obtain rfl := Option.some.inj ho
                exact hI.newQ (by kernel_rfl) hls (Nat.le_refl _) (newsQ_spec (l := [5]) (by kernel_rfl) ⟨⟨_, _, rfl⟩, trivial⟩) rfl rfl rfl 39 zE _ (run_allocQ rfl zE_run wn) rfl zE_ch hK'
              · exact hi.elim
            · intro an w6 hI
              obtain ⟨vr5_0, hvr5_0, hsr5_0⟩ := hI.haveQ 0 _ 23 (.val (.agg ar4_1)) rfl rfl rfl rfl
              obtain rfl := hsr5_0
              obtain ⟨vr5_1, hvr5_1, ar5_1, rfl, hCr5_1⟩ := hI.haveQ 1 _ 24 (.like (IsCV 5 RE [xOf (ofKey (k.set 31 (bits .andNot .u8 (k.getD 31 0) 128)))] (.bool false))) rfl rfl rfl rfl
              obtain ⟨vr5_2, hvr5_2, ar5_2, rfl, hCr5_2⟩ := hI.haveQ 2 _ 22 (.like (IsCV 5 RE [xOf (ofKey (k.set 31 (bits .andNot .u8 (k.getD 31 0) 128)))] (.bool false))) rfl rfl rfl rfl
              obtain ⟨vr5_3, hvr5_3, ar5_3, rfl, hCr5_3⟩ := hI.haveQ 3 _ 25 (.like (IsC 5 RE [xOf (ofKey (k.set 31 (bits .andNot .u8 (k.getD 31 0) 128)))])) rfl rfl rfl rfl
              obtain ⟨vr5_4, hvr5_4, hsr5_4⟩ := hI.haveQ 4 _ 26 (.val (.bool false)) rfl rfl rfl rfl
              obtain rfl := hsr5_4
              obtain ⟨vr5_5, hvr5_5, br5_5, zr5_5, rfl, hnr5_5, hbr5_5, hzr5_5⟩ := hI.haveQ 5 _ 6 (.blk ptrTo 39 (Ch 5 RE [0])) rfl rfl rfl rfl
              have hupd := hI.upd
              have ha := hI.act [(23, .agg ar4_1), (24, .tuple #[.agg ar5_1, .bool false]), (22, .tuple #[.agg ar5_2, .bool false]), (25, .agg ar5_3), (26, .bool false), (6, ptrTo br5_5)] (by simp [hvr5_0, hvr5_1, hvr5_2, hvr5_3, hvr5_4, hvr5_5]) (by kernel_rfl)
              clear hI hvr5_0 hvr5_1 hvr5_2 hvr5_3 hvr5_4 hvr5_5
              subst ha
              simp only [List.foldl_cons, List.foldl_nil, List.setIfInBounds_toArray, List.set_cons_zero, List.set_cons_succ]
              have hner5_5_Bxr0y0_s4_0 := Lib.hid (show br5_5 ≠ br0_0 from Nat.ne_of_gt (Nat.lt_of_lt_of_le Bxr0y0_s4_0.out.lt hnr5_5))
              have hner5_5_Bxr0y1_s4_0 := Lib.hid (show br5_5 ≠ br0_1 from Nat.ne_of_gt (Nat.lt_of_lt_of_le Bxr0y1_s4_0.out.lt hnr5_5))
              have hner5_5_Bxr4y2_s4_0 := Lib.hid (show br5_5 ≠ br4_2 from Nat.ne_of_gt (Nat.lt_of_lt_of_le Bxr4y2_s4_0.out.lt hnr5_5))
              have hger5_5 := Lib.hid (Nat.le_trans HU4_0.out.size hnr5_5)
              have Bxr0y0_5 := Lib.hid (hupd.blk (show Blk ws4_0 br0_0 23 (numsA .u8 (k.set 31 (bits .andNot .u8 (k.getD 31 0) 128))) from Bxr0y0_s4_0.out) (fun h => h))
              have Bxr0y1_5 := Lib.hid (hupd.blk (show Blk ws4_0 br0_1 41 zr0_1 from Bxr0y1_s4_0.out) (fun h => h))
              have Bxr4y2_5 := Lib.hid (hupd.blk (show Blk ws4_0 br4_2 39 ar4_1 from Bxr4y2_s4_0.out) (fun h => h))
              have Bxr5y5 := Lib.hid hbr5_5
              have HU5 := Lib.hid (HU4_0.out.trans hupd)
              clear hupd
              refine wpOps_storeQ 6 rfl rfl rfl 39 (.tmp 6) (.tmp 25) rfl br5_5 0 5 rfl ar5_3 rfl 39 zr5_5 Bxr5y5.out szE hCr5_3.size (by rw [hzr5_5.size]; exact Nat.le_of_ble_eq_true rfl) hCr5_3.one' ?_
              intro ws5_0 hs5_0 hus5_0
              rw [splice_all _ _ 5 hzr5_5.size hCr5_3.size] at hs5_0
              have Bxr0y0_s5_0 := Lib.hid (hus5_0.blk Bxr0y0_5.out (fun e => hner5_5_Bxr0y0_s4_0.out e.symm))
              have Bxr0y1_s5_0 := Lib.hid (hus5_0.blk Bxr0y1_5.out (fun e => hner5_5_Bxr0y1_s4_0.out e.symm))
              have Bxr4y2_s5_0 := Lib.hid (hus5_0.blk Bxr4y2_5.out (fun e => hner5_5_Bxr4y2_s4_0.out e.symm))
              have Bxr5y5_s5_0 := Lib.hid hs5_0
              have HU5_0 := Lib.hid (HU5.out.step hus5_0 (fun i hi h => absurd hi (Nat.not_lt.2 (h.symm ▸ hger5_5.out))))
              clear hs5_0 hus5_0
              refine wpOps_pureQ 7 rfl rfl 7 rfl (.bool false) (run_moveQ (x := .tmp 26) (v := .bool false) (.inr rfl) rfl _) ?_
              simp only [List.setIfInBounds_toArray, List.set_cons_zero, List.set_cons_succ]
              refine wpOps_nil ?_
              refine hK6 _ _ ?_
              clear hK6
              refine wp_seq_k fun K7 hK7 => ?_
              refine wp_seq_k fun K8 hK8 => ?_
              refine wp_region_qS 9 #[true, true, true, true, true, true, true, true, true] [] ([.val (.bool false), .val (.bool true), .val (.bool true), .val undef, .val undef, .val undef, .val undef, .val undef, .val (.bool true)] : List SQ) (by kernel_rfl) (by kernel_rfl) (by kernel_rfl) ?_ ?_
              · intro i o listed an wn ho hls hst hun hdep hI hpre K' hK'
                have hi : i = 0 ∨ i = 1 ∨ i = 2 ∨ i = 3 ∨ i = 4 ∨ i = 5 ∨ i = 6 ∨ i = 7 ∨ i = 8 ∨ False := slot_cases (l := [0, 1, 2, 3, 4, 5, 6, 7, 8]) rfl ho hst
                rcases hi with rfl | rfl | rfl | rfl | rfl | rfl | rfl | rfl | rfl | hi
                · obtain rfl := Option.some.inj ho
                  have hvp : an.eval (.tmp 7) = .bool false := hI.oldQ (by kernel_rfl) rfl
                  exact hI.pureQ (by kernel_rfl) hls rfl rfl rfl (.bool false) (run_moveQ (.inl rfl) hvp wn) (.val (.bool false)) rfl rfl rfl hK'
                · obtain rfl := Option.some.inj ho
                  obtain ⟨vp, hvp, hsp⟩ := hI.haveQ 0 _ 27 (.val (.bool false)) rfl rfl rfl (hdep ⟨0, .data⟩ (by simp) rfl)
                  obtain rfl := hsp
                  exact hI.pureQ (by kernel_rfl) hls rfl rfl rfl (.bool true) (run_not rfl (eval_of hvp) wn) (.val (.bool true)) rfl rfl rfl hK'
                · obtain rfl := Option.some.inj ho
                  obtain ⟨vp, hvp, hsp⟩ := hI.haveQ 1 _ 28 (.val (.bool true)) rfl rfl rfl (hdep ⟨1, .data⟩ (by simp) rfl)
                  obtain rfl := hsp
                  exact hI.pureQ (by kernel_rfl) hls rfl rfl rfl (.bool true) (run_moveQ (.inl rfl) (eval_of hvp) wn) (.val (.bool true)) rfl rfl rfl hK'
                · obtain rfl := Option.some.inj ho
                  obtain ⟨vg, hvg, hsg⟩ := hI.haveQ 2 _ 29 (.val (.bool true)) rfl rfl rfl (hdep ⟨2, .guard⟩ (by simp) rfl)
                  obtain rfl := hsg
                  exact hI.skipQ (by kernel_rfl) hls rfl (wanted_notQ rfl rfl rfl hvg rfl) rfl rfl rfl hK'
                · obtain rfl := Option.some.inj ho
                  obtain ⟨vg, hvg, hsg⟩ := hI.haveQ 2 _ 29 (.val (.bool true)) rfl rfl rfl (hdep ⟨2, .guard⟩ (by simp) rfl)
                  obtain rfl := hsg
                  exact hI.skipQ (by kernel_rfl) hls rfl (wanted_notQ rfl rfl rfl hvg rfl) rfl rfl rfl hK'
                · obtain rfl := Option.some.inj ho
                  obtain ⟨vg, hvg, hsg⟩ := hI.haveQ 4 _ 31 (.val undef) rfl rfl rfl (hdep ⟨4, .guard⟩ (by simp) rfl)
                  obtain rfl := hsg
                  exact hI.skipQ (by kernel_rfl) hls rfl (wanted_undef rfl rfl rfl hvg) rfl rfl rfl hK'
                · obtain rfl := Option.some.inj ho
                  obtain ⟨vg, hvg, hsg⟩ := hI.haveQ 4 _ 31 (.val undef) rfl rfl rfl (hdep ⟨4, .guard⟩ (by simp) rfl)
                  obtain rfl := hsg
                  exact hI.skipQ (by kernel_rfl) hls rfl (wanted_undef rfl rfl rfl hvg) rfl rfl rfl hK'
                · obtain rfl := Option.some.inj ho
                  obtain ⟨vg, hvg, hsg⟩ := hI.haveQ 2 _ 29 (.val (.bool true)) rfl rfl rfl (hdep ⟨2, .guard⟩ (by simp) rfl)
                  obtain rfl := hsg
                  exact hI.skipQ (by kernel_rfl) hls rfl (wanted_notQ rfl rfl rfl hvg rfl) rfl rfl rfl hK'
                · obtain rfl := Option.some.inj ho
                  obtain ⟨vp, hvp, hsp⟩ := hI.haveQ 2 _ 29 (.val (.bool true)) rfl rfl rfl (hdep ⟨2, .data⟩ (by simp) rfl)
                  obtain rfl := hsp
                  exact hI.pureQ (by kernel_rfl) hls rfl rfl rfl (.bool true) (run_pickT rfl (eval_of hvp) (show an.eval (.const (.bool true)) = .bool true from rfl) wn) (.val (.bool true)) rfl rfl rfl hK'
                · exact hi.elim
              · intro an w7 hI
                obtain ⟨vr6_0, hvr6_0, hsr6_0⟩ := hI.haveQ 0 _ 27 (.val (.bool false)) rfl rfl rfl rfl
                obtain rfl := hsr6_0
                obtain ⟨vr6_1, hvr6_1, hsr6_1⟩ := hI.haveQ 1 _ 28 (.val (.bool true)) rfl rfl rfl rfl
                obtain rfl := hsr6_1
                obtain ⟨vr6_2, hvr6_2, hsr6_2⟩ := hI.haveQ 2 _ 29 (.val (.bool true)) rfl rfl rfl rfl
                obtain rfl := hsr6_2
                obtain ⟨vr6_3, hvr6_3, hsr6_3⟩ := hI.haveQ 3 _ 30 (.val undef) rfl rfl rfl rfl
                obtain rfl := hsr6_3
                obtain ⟨vr6_4, hvr6_4, hsr6_4⟩ := hI.haveQ 4 _ 31 (.val undef) rfl rfl rfl rfl
                obtain rfl := hsr6_4
                obtain ⟨vr6_5, hvr6_5, hsr6_5⟩ := hI.haveQ 5 _ 32 (.val undef) rfl rfl rfl rfl
                obtain rfl := hsr6_5
                obtain ⟨vr6_6, hvr6_6, hsr6_6⟩ := hI.haveQ 6 _ 33 (.val undef) rfl rfl rfl rfl
                obtain rfl := hsr6_6
                obtain ⟨vr6_7, hvr6_7, hsr6_7⟩ := hI.haveQ 7 _ 34 (.val undef) rfl rfl rfl rfl
                obtain rfl := hsr6_7
                obtain ⟨vr6_8, hvr6_8, hsr6_8⟩ := hI.haveQ 8 _ 35 (.val (.bool true)) rfl rfl rfl rfl
                obtain rfl := hsr6_8
                have hupd := hI.upd
                have ha := hI.act [(27, .bool false), (28, .bool true), (29, .bool true), (30, undef), (31, undef), (32, undef), (33, undef), (34, undef), (35, .bool true)] (by simp [hvr6_0, hvr6_1, hvr6_2, hvr6_3, hvr6_4, hvr6_5, hvr6_6, hvr6_7, hvr6_8]) (by kernel_rfl)
                clear hI hvr6_0 hvr6_1 hvr6_2 hvr6_3 hvr6_4 hvr6_5 hvr6_6 hvr6_7 hvr6_8
                subst ha
                simp only [List.foldl_cons, List.foldl_nil, List.setIfInBounds_toArray, List.set_cons_zero, List.set_cons_succ]
                have Bxr0y0_6 := Lib.hid (hupd.blk (show Blk ws5_0 br0_0 23 (numsA .u8 (k.set 31 (bits .andNot .u8 (k.getD 31 0) 128))) from Bxr0y0_s5_0.out) (fun h => h))
                have Bxr0y1_6 := Lib.hid (hupd.blk (show Blk ws5_0 br0_1 41 zr0_1 from Bxr0y1_s5_0.out) (fun h => h))
                have Bxr4y2_6 := Lib.hid (hupd.blk (show Blk ws5_0 br4_2 39 ar4_1 from Bxr4y2_s5_0.out) (fun h => h))
                have Bxr5y5_6 := Lib.hid (hupd.blk (show Blk ws5_0 br5_5 39 ar5_3 from Bxr5y5_s5_0.out) (fun h => h))
                have HU6 := Lib.hid (HU5_0.out.trans hupd)
                clear hupd
                refine wpOps_nil ?_
                refine hK8 _ _ ?_
                clear hK8
                refine wp_cond_true rfl ?_
                refine wp_seq_k fun K9 hK9 => ?_
                refine wp_region_qS 1 #[true, false, false] [1, 2] ([.val (.agg zPt), .val undef, .val undef] : List SQ) (by kernel_rfl) (by kernel_rfl) (by kernel_rfl) ?_ ?_
                · intro i o listed an wn ho hls hst hun hdep hI hpre K' hK'
                  have hi : i = 0 ∨ False := slot_cases (l := [0]) rfl ho hst
                  rcases hi with rfl | hi
                  · obtain rfl := Option.some.inj ho
                    exact hI.pureQ (by kernel_rfl) hls rfl rfl rfl (.agg zPt) (run_buildPt0 rfl wn) (.val (.agg zPt)) rfl rfl rfl hK'
                  · exact hi.elim
                · intro an w8 hI
                  obtain ⟨vr7_0, hvr7_0, hsr7_0⟩ := hI.haveQ 0 _ 36 (.val (.agg zPt)) rfl rfl rfl rfl
                  obtain rfl := hsr7_0
                  have hupd := hI.upd
                  have ha := hI.act [(36, .agg zPt)] (by simp [hvr7_0]) (by kernel_rfl)
                  clear hI hvr7_0
                  subst ha
                  simp only [List.foldl_cons, List.foldl_nil, List.setIfInBounds_toArray, List.set_cons_zero, List.set_cons_succ]
                  have Bxr0y0_7 := Lib.hid (hupd.blk (show Blk w7 br0_0 23 (numsA .u8 (k.set 31 (bits .andNot .u8 (k.getD 31 0) 128))) from Bxr0y0_6.out) (fun h => h))
                  have Bxr0y1_7 := Lib.hid (hupd.blk (show Blk w7 br0_1 41 zr0_1 from Bxr0y1_6.out) (fun h => h))
                  have Bxr4y2_7 := Lib.hid (hupd.blk (show Blk w7 br4_2 39 ar4_1 from Bxr4y2_6.out) (fun h => h))
                  have Bxr5y5_7 := Lib.hid (hupd.blk (show Blk w7 br5_5 39 ar5_3 from Bxr5y5_6.out) (fun h => h))
                  have HU7 := Lib.hid (HU6.out.trans hupd)
                  clear hupd
                  refine wpOps_storeQ 1 rfl rfl rfl 41 (.tmp 2) (.tmp 36) rfl br0_1 0 20 rfl zPt rfl 41 zr0_1 Bxr0y1_7.out szPt zPt_ch.size (by rw [hzr0_1.size]; exact Nat.le_of_ble_eq_true rfl) zPt_ch.one' ?_
                  intro ws7_0 hs7_0 hus7_0
                  rw [splice_all _ _ 20 hzr0_1.size zPt_ch.size] at hs7_0
                  have Bxr0y0_s7_0 := Lib.hid (hus7_0.blk Bxr0y0_7.out (fun e => hner0_0_r0_1.out e))
                  have Bxr4y2_s7_0 := Lib.hid (hus7_0.blk Bxr4y2_7.out (fun e => hner4_2_Bxr0y1_3.out e))
                  have Bxr5y5_s7_0 := Lib.hid (hus7_0.blk Bxr5y5_7.out (fun e => hner5_5_Bxr0y1_s4_0.out e))
                  have Bxr0y1_s7_0 := Lib.hid hs7_0
                  have HU7_0 := Lib.hid (HU7.out.step hus7_0 (fun i hi h => absurd hi (Nat.not_lt.2 (h.symm ▸ hger0_1.out))))
                  clear hs7_0 hus7_0
                  refine wpOps_pureQ 2 rfl rfl 3 rfl (.int .i64 60) (run_moveQ (x := .const (.int .i64 60)) (v := .int .i64 60) (.inr rfl) rfl _) ?_
                  simp only [List.setIfInBounds_toArray, List.set_cons_zero, List.set_cons_succ]
                  refine wpOps_nil ?_
                  refine hK9 _ _ ?_
                  clear hK9
                  refine wp_ret ?_
                  try dsimp only [Exit.then]
                  try dsimp only [Exit.inBlock]
                  exact bodyPost_ret (v := .tuple #[.agg zPt, .int .i64 60]) (results_cell_tmpQ (fn := Tryd.f24) (p := 2) (q := 3) (ty := 41) rfl _ _ br0_1 zPt (.int .i64 60) rfl rfl Bxr0y1_s7_0.out Tryd.underlying41 rfl (by rw [zPt_ch.size]; exact szPt)) rfl ⟨_, rfl, zPt_ch, HU7_0.out⟩
set_option maxHeartbeats 4000000 in
theorem decodeC {k : List Int} (w : World) (hT : Tw w) (hl : k.length = 32) (hd : Digs 256 k) (hc : canonB (k.set 31 (bits .andNot .u8 (k.getD 31 0) 128)) = true) (hr : isY (ofKey (k.set 31 (bits .andNot .u8 (k.getD 31 0) 128))) = true) (hodd : decide ((bits .and .u8 (k.getD 31 0) 128) = 0) = false) (hx : decide (xOf (ofKey (k.set 31 (bits .andNot .u8 (k.getD 31 0) 128))) = 0) = true) :
    Calls Tryd.prog 24 #[.agg (numsA .u8 k)] w (RetCV 5 RE [0, 0, 0, 0] (.int .i64 60) w) := by
  have HT := Lib.hid hT
  clear hT
  have HU := Lib.hid (Upd.refl (fun _ => False) w)
  go_enter Tryd.func24, Tryd.ntmps24
  refine wp_seq_k fun K0 hK0 => ?_
  refine wp_region_qS 3 #[true, true, true] [] ([.blk ptrTo 23 (fun z => z = numsA .u8 k), .blk ptrTo 41 (Ch 5 RE [0, 0, 0, 0]), .val (.int .i64 0)] : List SQ) (by kernel_rfl) (by kernel_rfl) (by kernel_rfl) ?_ ?_
  · intro i o listed an wn ho hls hst hun hdep hI hpre K' hK'
    have hi : i = 0 ∨ i = 1 ∨ i = 2 ∨ False := slot_cases (l := [0, 1, 2]) rfl ho hst
    rcases hi with rfl | rfl | rfl | hi
    · obtain rfl := Option.some.inj ho
      have hvp : an.eval (.tmp 0) = .agg (numsA .u8 k) := hI.oldQ (by kernel_rfl) rfl
      exact hI.newQ (by kernel_rfl) hls (Nat.le_refl _) (newsQ_spec (l := [0, 1]) (by kernel_rfl) ⟨⟨_, _, rfl⟩, ⟨_, _, rfl⟩, trivial⟩) rfl rfl rfl 23 _ (fun z => z = numsA .u8 k) (run_boxQ rfl hvp wn) rfl rfl hK'
    · obtain rfl := Option.some.inj ho
      exact hI.newQ (by kernel_rfl) hls (Nat.le_refl _) (newsQ_spec (l := [0, 1]) (by kernel_rfl) ⟨⟨_, _, rfl⟩, ⟨_, _, rfl⟩, trivial⟩) rfl rfl rfl 41 zPt _ (run_allocQ rfl zPt_run wn) rfl zPt_ch hK'
    · obtain rfl := Option.some.inj ho
      exact hI.pureQ (by kernel_rfl) hls rfl rfl rfl (.int .i64 0) (run_moveQ (.inr rfl) (show an.eval (.const (.int .i64 0)) = .int .i64 0 from rfl) wn) (.val (.int .i64 0)) rfl rfl rfl hK'
    · exact hi.elim
  · intro an w1 hI
    obtain ⟨vr0_0, hvr0_0, br0_0, zr0_0, rfl, hnr0_0, hbr0_0, hzr0_0⟩ := hI.haveQ 0 _ 1 (.blk ptrTo 23 (fun z => z = numsA .u8 k)) rfl rfl rfl rfl
    rw [hzr0_0] at hbr0_0
    clear hzr0_0
    obtain ⟨vr0_1, hvr0_1, br0_1, zr0_1, rfl, hnr0_1, hbr0_1, hzr0_1⟩ := hI.haveQ 1 _ 2 (.blk ptrTo 41 (Ch 5 RE [0, 0, 0, 0])) rfl rfl rfl rfl
    obtain ⟨vr0_2, hvr0_2, hsr0_2⟩ := hI.haveQ 2 _ 3 (.val (.int .i64 0)) rfl rfl rfl rfl
    obtain rfl := hsr0_2
    have hupd := hI.upd
    have hner0_0_r0_1 := Lib.hid (show br0_0 ≠ br0_1 from fun e => hI.apart 0 1 _ _ 1 2 (by omega) rfl rfl rfl rfl rfl rfl rfl rfl (by rw [hvr0_0, hvr0_1, e]))
    have ha := hI.act [(1, ptrTo br0_0), (2, ptrTo br0_1), (3, .int .i64 0)] (by simp [hvr0_0, hvr0_1, hvr0_2]) (by kernel_rfl)
    clear hI hvr0_0 hvr0_1 hvr0_2
    subst ha
    simp only [List.foldl_cons, List.foldl_nil, List.setIfInBounds_toArray, List.set_cons_zero, List.set_cons_succ]
    have hger0_0 := Lib.hid (Nat.le_trans HU.out.size hnr0_0)
    have hger0_1 := Lib.hid (Nat.le_trans HU.out.size hnr0_1)
    have Bxr0y0 := Lib.hid hbr0_0
    have Bxr0y1 := Lib.hid hbr0_1
    have HU0 := Lib.hid (HU.out.trans hupd)
    clear hupd
    refine wpOps_nil ?_
    refine hK0 _ _ ?_
    clear hK0
    refine wp_seq_k fun K1 hK1 => ?_
    refine wp_region_qS 5 #[true, true, true, true, true] [] ([.val (.pointer (some ⟨br0_0, 0 + 31, none⟩)), .val (.int .u8 (k.getD 31 0)), .val (.int .u8 (bits .and .u8 (k.getD 31 0) 128)), .val (.bool true), .val (.bool true)] : List SQ) (by kernel_rfl) (by kernel_rfl) (by kernel_rfl) ?_ ?_
    · intro i o listed an wn ho hls hst hun hdep hI hpre K' hK'
      have hi : i = 0 ∨ i = 1 ∨ i = 2 ∨ i = 3 ∨ i = 4 ∨ False := slot_cases (l := [0, 1, 2, 3, 4]) rfl ho hst
      rcases hi with rfl | rfl | rfl | rfl | rfl | hi
      · obtain rfl := Option.some.inj ho
        have hvp : an.eval (.tmp 1) = ptrTo br0_0 := hI.oldQ (by kernel_rfl) rfl
        exact hI.pureQ (by kernel_rfl) hls rfl rfl rfl (.pointer (some ⟨br0_0, 0 + 31, none⟩)) (run_adr (off := 0) (i := 31) rfl Tryd.underlying23 size5 hvp rfl (by omega) wn) (.val (.pointer (some ⟨br0_0, 0 + 31, none⟩))) rfl rfl rfl hK'
      · obtain rfl := Option.some.inj ho
        obtain ⟨vp, hvp, hsp⟩ := hI.haveQ 0 _ 8 (.val (.pointer (some ⟨br0_0, 0 + 31, none⟩))) rfl rfl rfl (hdep ⟨0, .data⟩ (by simp) rfl)
        obtain rfl := hsp
        exact hI.pureQ (by kernel_rfl) hls rfl rfl rfl (.int .u8 (k.getD 31 0)) (run_cellQ rfl Tryd.underlying5 (eval_of hvp) wn (hI.upd.blk (show Blk w1 br0_0 23 (numsA .u8 k) from Bxr0y0.out) (fun h => h)) (by rw [Nat.zero_add]; exact numsA_get _ _ _ (by rw [hl]; omega))) (.val (.int .u8 (k.getD 31 0))) rfl rfl rfl hK'
      · obtain rfl := Option.some.inj ho
        obtain ⟨vp, hvp, hsp⟩ := hI.haveQ 1 _ 9 (.val (.int .u8 (k.getD 31 0))) rfl rfl rfl (hdep ⟨1, .data⟩ (by simp) rfl)
        obtain rfl := hsp
        exact hI.pureQ (by kernel_rfl) hls rfl rfl rfl (.int .u8 (bits .and .u8 (k.getD 31 0) 128)) (run_andB8 rfl (eval_of hvp) rfl wn) (.val (.int .u8 (bits .and .u8 (k.getD 31 0) 128))) rfl rfl rfl hK'
      · obtain rfl := Option.some.inj ho
        obtain ⟨vp, hvp, hsp⟩ := hI.haveQ 2 _ 10 (.val (.int .u8 (bits .and .u8 (k.getD 31 0) 128))) rfl rfl rfl (hdep ⟨2, .data⟩ (by simp) rfl)
        obtain rfl := hsp
        exact hI.pureQ (by kernel_rfl) hls rfl rfl rfl (.bool true) (run_neq rfl (eval_of hvp) rfl (ne_of_eqB hodd) wn) (.val (.bool true)) rfl rfl rfl hK'
      · obtain rfl := Option.some.inj ho
        obtain ⟨vp, hvp, hsp⟩ := hI.haveQ 3 _ 11 (.val (.bool true)) rfl rfl rfl (hdep ⟨3, .data⟩ (by simp) rfl)
        obtain rfl := hsp
        exact hI.pureQ (by kernel_rfl) hls rfl rfl rfl (.bool true) (run_moveQ (.inr rfl) (eval_of hvp) wn) (.val (.bool true)) rfl rfl rfl hK'
      · exact hi.elim
    · intro an w2 hI
      obtain ⟨vr1_0, hvr1_0, hsr1_0⟩ := hI.haveQ 0 _ 8 (.val (.pointer (some ⟨br0_0, 0 + 31, none⟩))) rfl rfl rfl rfl
      obtain rfl := hsr1_0
      obtain ⟨vr1_1, hvr1_1, hsr1_1⟩ := hI.haveQ 1 _ 9 (.val (.int .u8 (k.getD 31 0))) rfl rfl rfl rfl
      obtain rfl := hsr1_1
      obtain ⟨vr1_2, hvr1_2, hsr1_2⟩ := hI.haveQ 2 _ 10 (.val (.int .u8 (bits .and .u8 (k.getD 31 0) 128))) rfl rfl rfl rfl
      obtain rfl := hsr1_2
      obtain ⟨vr1_3, hvr1_3, hsr1_3⟩ := hI.haveQ 3 _ 11 (.val (.bool true)) rfl rfl rfl rfl
      obtain rfl := hsr1_3
      obtain ⟨vr1_4, hvr1_4, hsr1_4⟩ := hI.haveQ 4 _ 4 (.val (.bool true)) rfl rfl rfl rfl
      obtain rfl := hsr1_4
      have hupd := hI.upd
      have ha := hI.act [(8, .pointer (some ⟨br0_0, 0 + 31, none⟩)), (9, .int .u8 (k.getD 31 0)), (10, .int .u8 (bits .and .u8 (k.getD 31 0) 128)), (11, .bool true), (4, .bool true)] (by simp [hvr1_0, hvr1_1, hvr1_2, hvr1_3, hvr1_4]) (by kernel_rfl)
      clear hI hvr1_0 hvr1_1 hvr1_2 hvr1_3 hvr1_4
      subst ha
      simp only [List.foldl_cons, List.foldl_nil, List.setIfInBounds_toArray, List.set_cons_zero, List.set_cons_succ]
      have Bxr0y0_1 := Lib.hid (hupd.blk (show Blk w1 br0_0 23 (numsA .u8 k) from Bxr0y0.out) (fun h => h))
      have Bxr0y1_1 := Lib.hid (hupd.blk (show Blk w1 br0_1 41 zr0_1 from Bxr0y1.out) (fun h => h))
      have HU1 := Lib.hid (HU0.out.trans hupd)
      clear hupd
      refine wpOps_nil ?_
      refine hK1 _ _ ?_
      clear hK1
      refine wp_seq_k fun K2 hK2 => ?_
      refine wp_region_qS 4 #[true, true, true, true, false] [4] ([.val (.pointer (some ⟨br0_0, 0 + 31, none⟩)), .val (.int .u8 (k.getD 31 0)), .val (.int .u8 (bits .andNot .u8 (k.getD 31 0) 128)), .val (.pointer (some ⟨br0_0, 0 + 31, none⟩)), .val undef] : List SQ) (by kernel_rfl) (by kernel_rfl) (by kernel_rfl) ?_ ?_
      · intro i o listed an wn ho hls hst hun hdep hI hpre K' hK'
        have hi : i = 0 ∨ i = 1 ∨ i = 2 ∨ i = 3 ∨ False := slot_cases (l := [0, 1, 2, 3]) rfl ho hst
        rcases hi with rfl | rfl | rfl | rfl | hi
        · obtain rfl := Option.some.inj ho
          have hvp : an.eval (.tmp 1) = ptrTo br0_0 := hI.oldQ (by kernel_rfl) rfl
          exact hI.pureQ (by kernel_rfl) hls rfl rfl rfl (.pointer (some ⟨br0_0, 0 + 31, none⟩)) (run_adr (off := 0) (i := 31) rfl Tryd.underlying23 size5 hvp rfl (by omega) wn) (.val (.pointer (some ⟨br0_0, 0 + 31, none⟩))) rfl rfl rfl hK'
        · obtain rfl := Option.some.inj ho
          obtain ⟨vp, hvp, hsp⟩ := hI.haveQ 0 _ 12 (.val (.pointer (some ⟨br0_0, 0 + 31, none⟩))) rfl rfl rfl (hdep ⟨0, .data⟩ (by simp) rfl)
          obtain rfl := hsp
          exact hI.pureQ (by kernel_rfl) hls rfl rfl rfl (.int .u8 (k.getD 31 0)) (run_cellQ rfl Tryd.underlying5 (eval_of hvp) wn (hI.upd.blk (show Blk w2 br0_0 23 (numsA .u8 k) from Bxr0y0_1.out) (fun h => h)) (by rw [Nat.zero_add]; exact numsA_get _ _ _ (by rw [hl]; omega))) (.val (.int .u8 (k.getD 31 0))) rfl rfl rfl hK'
        · obtain rfl := Option.some.inj ho
          obtain ⟨vp, hvp, hsp⟩ := hI.haveQ 1 _ 13 (.val (.int .u8 (k.getD 31 0))) rfl rfl rfl (hdep ⟨1, .data⟩ (by simp) rfl)
          obtain rfl := hsp
          exact hI.pureQ (by kernel_rfl) hls rfl rfl rfl (.int .u8 (bits .andNot .u8 (k.getD 31 0) 128)) (run_andNot8 rfl (eval_of hvp) rfl wn) (.val (.int .u8 (bits .andNot .u8 (k.getD 31 0) 128))) rfl rfl rfl hK'
        · obtain rfl := Option.some.inj ho
          have hvp : an.eval (.tmp 1) = ptrTo br0_0 := hI.oldQ (by kernel_rfl) rfl
          exact hI.pureQ (by kernel_rfl) hls rfl rfl rfl (.pointer (some ⟨br0_0, 0 + 31, none⟩)) (run_adr (off := 0) (i := 31) rfl Tryd.underlying23 size5 hvp rfl (by omega) wn) (.val (.pointer (some ⟨br0_0, 0 + 31, none⟩))) rfl rfl rfl hK'
        · exact hi.elim
      · intro an w3 hI
        obtain ⟨vr2_0, hvr2_0, hsr2_0⟩ := hI.haveQ 0 _ 12 (.val (.pointer (some ⟨br0_0, 0 + 31, none⟩))) rfl rfl rfl rfl
        obtain rfl := hsr2_0
        obtain ⟨vr2_1, hvr2_1, hsr2_1⟩ := hI.haveQ 1 _ 13 (.val (.int .u8 (k.getD 31 0))) rfl rfl rfl rfl
        obtain rfl := hsr2_1
        obtain ⟨vr2_2, hvr2_2, hsr2_2⟩ := hI.haveQ 2 _ 14 (.val (.int .u8 (bits .andNot .u8 (k.getD 31 0) 128))) rfl rfl rfl rfl
        obtain rfl := hsr2_2
        obtain ⟨vr2_3, hvr2_3, hsr2_3⟩ := hI.haveQ 3 _ 15 (.val (.pointer (some ⟨br0_0, 0 + 31, none⟩))) rfl rfl rfl rfl
        obtain rfl := hsr2_3
        have hupd := hI.upd
        have ha := hI.act [(12, .pointer (some ⟨br0_0, 0 + 31, none⟩)), (13, .int .u8 (k.getD 31 0)), (14, .int .u8 (bits .andNot .u8 (k.getD 31 0) 128)), (15, .pointer (some ⟨br0_0, 0 + 31, none⟩))] (by simp [hvr2_0, hvr2_1, hvr2_2, hvr2_3]) (by kernel_rfl)
        clear hI hvr2_0 hvr2_1 hvr2_2 hvr2_3
        subst ha
        simp only [List.foldl_cons, List.foldl_nil, List.setIfInBounds_toArray, List.set_cons_zero, List.set_cons_succ]
        have Bxr0y0_2 := Lib.hid (hupd.blk (show Blk w2 br0_0 23 (numsA .u8 k) from Bxr0y0_1.out) (fun h => h))
        have Bxr0y1_2 := Lib.hid (hupd.blk (show Blk w2 br0_1 41 zr0_1 from Bxr0y1_1.out) (fun h => h))
        have HU2 := Lib.hid (HU1.out.trans hupd)
        clear hupd
        refine wpOps_storeB 4 rfl rfl rfl 5 (.tmp 15) (.tmp 14) rfl size5 br0_0 (0 + 31) rfl (bits .andNot .u8 (k.getD 31 0) 128) rfl 23 k Bxr0y0_2.out (by rw [hl]; omega) ?_
        rw [Nat.zero_add]
        intro ws2_0 hs2_0 hus2_0
        have Bxr0y1_s2_0 := Lib.hid (hus2_0.blk Bxr0y1_2.out (fun e => hner0_0_r0_1.out e.symm))
        have Bxr0y0_s2_0 := Lib.hid hs2_0
        have HU2_0 := Lib.hid (HU2.out.step hus2_0 (fun i hi h => absurd hi (Nat.not_lt.2 (h.symm ▸ hger0_0.out))))
        clear hs2_0 hus2_0
        refine wpOps_nil ?_
        refine hK2 _ _ ?_
        clear hK2
        refine wp_seq_k fun K3 hK3 => ?_
        refine wp_seq_k fun K4 hK4 => ?_
        refine wp_region_qS 3 #[true, true, true] [] ([.val (.agg (numsA .u8 (k.set 31 (bits .andNot .u8 (k.getD 31 0) 128)))), .val (.bool true), .val (.bool false)] : List SQ) (by kernel_rfl) (by kernel_rfl) (by kernel_rfl) ?_ ?_
        · intro i o listed an wn ho hls hst hun hdep hI hpre K' hK'
          have hi : i = 0 ∨ i = 1 ∨ i = 2 ∨ False := slot_cases (l := [0, 1, 2]) rfl ho hst
          rcases hi with rfl | rfl | rfl | hi
          · obtain rfl := Option.some.inj ho
            have hvp : an.eval (.tmp 1) = ptrTo br0_0 := hI.oldQ (by kernel_rfl) rfl
            exact hI.pureQ (by kernel_rfl) hls rfl rfl rfl _ (run_loadQ rfl hvp wn (hI.upd.blk (show Blk ws2_0 br0_0 23 (numsA .u8 (k.set 31 (bits .andNot .u8 (k.getD 31 0) 128))) from Bxr0y0_s2_0.out) (fun h => h)) Tryd.underlying23 rfl sizeKey (by rw [numsA_size, (set_length hl _ _)]; omega)) (.val (.agg (numsA .u8 (k.set 31 (bits .andNot .u8 (k.getD 31 0) 128))))) rfl (congrArg Value.agg (extract_all _ 32 (by rw [numsA_size]; exact (set_length hl _ _)))) rfl hK'
          · obtain rfl := Option.some.inj ho
            obtain ⟨vp, hvp, hsp⟩ := hI.haveQ 0 _ 16 (.val (.agg (numsA .u8 (k.set 31 (bits .andNot .u8 (k.getD 31 0) 128))))) rfl rfl rfl (hdep ⟨0, .data⟩ (by simp) rfl)
            obtain rfl := hsp
            exact hI.callQ (by kernel_rfl) hls rfl rfl rfl 60 #[.tmp 16] _ rfl #[.agg (numsA .u8 (k.set 31 (bits .andNot .u8 (k.getD 31 0) 128)))] (by simp [eval_of hvp]) (run_enter Tryd.func60 (by kernel_rfl) (by kernel_rfl)) (.val (.bool true)) rfl rfl ((canonicalE (k.set 31 (bits .andNot .u8 (k.getD 31 0) 128)) (set_length hl _ _) (digs_set hd _ _ (andNot8_bnd _ _ (Digs.get (B := 256) (by decide) hd _) (by decide)).1 (andNot8_bnd _ _ (Digs.get (B := 256) (by decide) hd _) (by decide)).2)).mono fun _ _ h => ret_val (ret_b h hc)) hK'
          · obtain rfl := Option.some.inj ho
            obtain ⟨vp, hvp, hsp⟩ := hI.haveQ 1 _ 17 (.val (.bool true)) rfl rfl rfl (hdep ⟨1, .data⟩ (by simp) rfl)
            obtain rfl := hsp
            exact hI.pureQ (by kernel_rfl) hls rfl rfl rfl (.bool false) (run_not rfl (eval_of hvp) wn) (.val (.bool false)) rfl rfl rfl hK'
          · exact hi.elim
        · intro an w4 hI
          obtain ⟨vr3_0, hvr3_0, hsr3_0⟩ := hI.haveQ 0 _ 16 (.val (.agg (numsA .u8 (k.set 31 (bits .andNot .u8 (k.getD 31 0) 128))))) rfl rfl rfl rfl
          obtain rfl := hsr3_0
          obtain ⟨vr3_1, hvr3_1, hsr3_1⟩ := hI.haveQ 1 _ 17 (.val (.bool true)) rfl rfl rfl rfl
          obtain rfl := hsr3_1
          obtain ⟨vr3_2, hvr3_2, hsr3_2⟩ := hI.haveQ 2 _ 18 (.val (.bool false)) rfl rfl rfl rfl
          obtain rfl := hsr3_2
          have hupd := hI.upd
          have ha := hI.act [(16, .agg (numsA .u8 (k.set 31 (bits .andNot .u8 (k.getD 31 0) 128)))), (17, .bool true), (18, .bool false)] (by simp [hvr3_0, hvr3_1, hvr3_2]) (by kernel_rfl)
          clear hI hvr3_0 hvr3_1 hvr3_2
          subst ha
          simp only [List.foldl_cons, List.foldl_nil, List.setIfInBounds_toArray, List.set_cons_zero, List.set_cons_succ]
          have Bxr0y0_3 := Lib.hid (hupd.blk (show Blk ws2_0 br0_0 23 (numsA .u8 (k.set 31 (bits .andNot .u8 (k.getD 31 0) 128))) from Bxr0y0_s2_0.out) (fun h => h))
          have Bxr0y1_3 := Lib.hid (hupd.blk (show Blk ws2_0 br0_1 41 zr0_1 from Bxr0y1_s2_0.out) (fun h => h))
          have HU3 := Lib.hid (HU2_0.out.trans hupd)
          clear hupd
          refine wpOps_nil ?_
          refine hK4 _ _ ?_
          clear hK4
          refine wp_cond_false rfl ?_
          refine wp_skip ?_
          refine hK3 _ _ ?_
          clear hK3
          refine wp_seq_k fun K5 hK5 => ?_
          refine wp_region_qS 3 #[true, true, true, false] [3] ([.val (.agg (numsA .u8 (k.set 31 (bits .andNot .u8 (k.getD 31 0) 128)))), .like (IsC 5 RE [ofKey (k.set 31 (bits .andNot .u8 (k.getD 31 0) 128))]), .blk ptrTo 39 (Ch 5 RE [0]), .val undef] : List SQ) (by kernel_rfl) (by kernel_rfl) (by kernel_rfl) ?_ ?_
          · intro i o listed an wn ho hls hst hun hdep hI hpre K' hK'
            have hi : i = 0 ∨ i = 1 ∨ i = 2 ∨ False := slot_cases (l := [0, 1, 2]) rfl ho hst
            rcases hi with rfl | rfl | rfl | hi
            · obtain rfl := Option.some.inj ho
              have hvp : an.eval (.tmp 1) = ptrTo br0_0 := hI.oldQ (by kernel_rfl) rfl
              exact hI.pureQ (by kernel_rfl) hls rfl rfl rfl _ (run_loadQ rfl hvp wn (hI.upd.blk (show Blk w4 br0_0 23 (numsA .u8 (k.set 31 (bits .andNot .u8 (k.getD 31 0) 128))) from Bxr0y0_3.out) (fun h => h)) Tryd.underlying23 rfl sizeKey (by rw [numsA_size, (set_length hl _ _)]; omega)) (.val (.agg (numsA .u8 (k.set 31 (bits .andNot .u8 (k.getD 31 0) 128))))) rfl (congrArg Value.agg (extract_all _ 32 (by rw [numsA_size]; exact (set_length hl _ _)))) rfl hK'
            · obtain rfl := Option.some.inj ho
              obtain ⟨vp, hvp, hsp⟩ := hI.haveQ 0 _ 20 (.val (.agg (numsA .u8 (k.set 31 (bits .andNot .u8 (k.getD 31 0) 128))))) rfl rfl rfl (hdep ⟨0, .data⟩ (by simp) rfl)
              obtain rfl := hsp
              exact hI.callQ (by kernel_rfl) hls rfl rfl rfl 42 #[.tmp 20] _ rfl #[.agg (numsA .u8 (k.set 31 (bits .andNot .u8 (k.getD 31 0) 128)))] (by simp [eval_of hvp]) (run_enter Tryd.func42 (by kernel_rfl) (by kernel_rfl)) (.like (IsC 5 RE [ofKey (k.set 31 (bits .andNot .u8 (k.getD 31 0) 128))])) rfl rfl ((ofE (k.set 31 (bits .andNot .u8 (k.getD 31 0) 128)) ((set_length hl _ _)) ((digs_set hd _ _ (andNot8_bnd _ _ (Digs.get (B := 256) (by decide) hd _) (by decide)).1 (andNot8_bnd _ _ (Digs.get (B := 256) (by decide) hd _) (by decide)).2))).mono fun _ _ h => h.sq) hK'
            · obtain rfl := Option.some.inj ho
              exact hI.newQ (by kernel_rfl) hls (Nat.le_refl _) (newsQ_spec (l := [2]) (by kernel_rfl) ⟨⟨_, _, rfl⟩, trivial⟩) rfl rfl rfl 39 zE _ (run_allocQ rfl zE_run wn) rfl zE_ch hK'
            · exact hi.elim
          · intro an w5 hI
            obtain ⟨vr4_0, hvr4_0, hsr4_0⟩ := hI.haveQ 0 _ 20 (.val (.agg (numsA .u8 (k.set 31 (bits .andNot .u8 (k.getD 31 0) 128))))) rfl rfl rfl rfl
            obtain rfl := hsr4_0
            obtain ⟨vr4_1, hvr4_1, ar4_1, rfl, hCr4_1⟩ := hI.haveQ 1 _ 21 (.like (IsC 5 RE [ofKey (k.set 31 (bits .andNot .u8 (k.getD 31 0) 128))])) rfl rfl rfl rfl
            obtain ⟨vr4_2, hvr4_2, br4_2, zr4_2, rfl, hnr4_2, hbr4_2, hzr4_2⟩ := hI.haveQ 2 _ 5 (.blk ptrTo 39 (Ch 5 RE [0])) rfl rfl rfl rfl
            have hupd := hI.upd
            have ha := hI.act [(20, .agg (numsA .u8 (k.set 31 (bits .andNot .u8 (k.getD 31 0) 128)))), (21, .agg ar4_1), (5, ptrTo br4_2)] (by simp [hvr4_0, hvr4_1, hvr4_2]) (by kernel_rfl)
            clear hI hvr4_0 hvr4_1 hvr4_2
            subst ha
            simp only [List.foldl_cons, List.foldl_nil, List.setIfInBounds_toArray, List.set_cons_zero, List.set_cons_succ]
            have hner4_2_Bxr0y0_3 := Lib.hid (show br4_2 ≠ br0_0 from Nat.ne_of_gt (Nat.lt_of_lt_of_le Bxr0y0_3.out.lt hnr4_2))
            have hner4_2_Bxr0y1_3 := Lib.hid (show br4_2 ≠ br0_1 from Nat.ne_of_gt (Nat.lt_of_lt_of_le Bxr0y1_3.out.lt hnr4_2))
            have hger4_2 := Lib.hid (Nat.le_trans HU3.out.size hnr4_2)
            have Bxr0y0_4 := Lib.hid (hupd.blk (show Blk w4 br0_0 23 (numsA .u8 (k.set 31 (bits .andNot .u8 (k.getD 31 0) 128))) from Bxr0y0_3.out) (fun h => h))
            have Bxr0y1_4 := Lib.hid (hupd.blk (show Blk w4 br0_1 41 zr0_1 from Bxr0y1_3.out) (fun h => h))
            have Bxr4y2 := Lib.hid hbr4_2
            have HU4 := Lib.hid (HU3.out.trans hupd)
            clear hupd
            refine wpOps_storeQ 3 rfl rfl rfl 39 (.tmp 5) (.tmp 21) rfl br4_2 0 5 rfl ar4_1 rfl 39 zr4_2 Bxr4y2.out szE hCr4_1.size (by rw [hzr4_2.size]; exact Nat.le_of_ble_eq_true rfl) hCr4_1.one' ?_
            intro ws4_0 hs4_0 hus4_0
            rw [splice_all _ _ 5 hzr4_2.size hCr4_1.size] at hs4_0
            have Bxr0y0_s4_0 := Lib.hid (hus4_0.blk Bxr0y0_4.out (fun e => hner4_2_Bxr0y0_3.out e.symm))
            have Bxr0y1_s4_0 := Lib.hid (hus4_0.blk Bxr0y1_4.out (fun e => hner4_2_Bxr0y1_3.out e.symm))
            have Bxr4y2_s4_0 := Lib.hid hs4_0
            have HU4_0 := Lib.hid (HU4.out.step hus4_0 (fun i hi h => absurd hi (Nat.not_lt.2 (h.symm ▸ hger4_2.out))))
            clear hs4_0 hus4_0
            refine wpOps_nil ?_
            refine hK5 _ _ ?_
            clear hK5
            refine wp_seq_k fun K6 hK6 => ?_
            refine wp_region_qS 6 #[true, true, true, true, true, true, false, false] [6, 7] ([.val (.agg ar4_1), .like (IsCV 5 RE [xOf (ofKey (k.set 31 (bits .andNot .u8 (k.getD 31 0) 128)))] (.bool true)), .like (IsCV 5 RE [xOf (ofKey (k.set 31 (bits .andNot .u8 (k.getD 31 0) 128)))] (.bool true)), .like (IsC 5 RE [xOf (ofKey (k.set 31 (bits .andNot .u8 (k.getD 31 0) 128)))]), .val (.bool true), .blk ptrTo 39 (Ch 5 RE [0]), .val undef, .val undef] : List SQ) (by kernel_rfl) (by kernel_rfl) (by kernel_rfl) ?_ ?_
            · intro i o listed an wn ho hls hst hun hdep hI hpre K' hK'
              have hi : i = 0 ∨ i = 1 ∨ i = 2 ∨ i = 3 ∨ i = 4 ∨ i = 5 ∨ False := slot_cases (l := [0, 1, 2, 3, 4, 5]) rfl ho hst
              rcases hi with rfl | rfl | rfl | rfl | rfl | rfl | hi
              · obtain rfl := Option.some.inj ho
                have hvp : an.eval (.tmp 5) = ptrTo br4_2 := hI.oldQ (by kernel_rfl) rfl
                exact hI.pureQ (by kernel_rfl) hls rfl rfl rfl _ (run_loadQ rfl hvp wn (hI.upd.blk (show Blk ws4_0 br4_2 39 ar4_1 from Bxr4y2_s4_0.out) (fun h => h)) Tryd.underlying39 rfl szE (by rw [hCr4_1.size]; exact Nat.le_of_ble_eq_true rfl)) (.val (.agg ar4_1)) rfl (congrArg Value.agg (extract_all _ 5 hCr4_1.size)) rfl hK'
              · obtain rfl := Option.some.inj ho
                obtain ⟨vp, hvp, hsp⟩ := hI.haveQ 0 _ 23 (.val (.agg ar4_1)) rfl rfl rfl (hdep ⟨0, .data⟩ (by simp) rfl)
                obtain rfl := hsp
                exact hI.callQ (by kernel_rfl) hls rfl rfl rfl 61 #[.tmp 23] _ rfl #[.agg ar4_1] (by simp [eval_of hvp]) (run_enter Tryd.func61 (by kernel_rfl) (by kernel_rfl)) (.like (IsCV 5 RE [xOf (ofKey (k.set 31 (bits .andNot .u8 (k.getD 31 0) 128)))] (.bool true))) rfl rfl ((evenXP _ (HT.out.upd (HU4_0.out.trans hI.upd)) hCr4_1 (den_y _)).mono fun _ _ h => (RetCV.bool h hr).sq) hK'
              · obtain rfl := Option.some.inj ho
                obtain ⟨vp, hvp, ap, rfl, hCp⟩ := hI.haveQ 1 _ 24 (.like (IsCV 5 RE [xOf (ofKey (k.set 31 (bits .andNot .u8 (k.getD 31 0) 128)))] (.bool true))) rfl rfl rfl (hdep ⟨1, .data⟩ (by simp) rfl)
                exact hI.pureQ (by kernel_rfl) hls rfl rfl rfl _ (run_moveQ (.inl rfl) (eval_of hvp) wn) (.like (IsCV 5 RE [xOf (ofKey (k.set 31 (bits .andNot .u8 (k.getD 31 0) 128)))] (.bool true))) rfl ⟨_, rfl, hCp⟩ rfl hK'
              · obtain rfl := Option.some.inj ho
                obtain ⟨vp, hvp, ap, rfl, hCp⟩ := hI.haveQ 2 _ 22 (.like (IsCV 5 RE [xOf (ofKey (k.set 31 (bits .andNot .u8 (k.getD 31 0) 128)))] (.bool true))) rfl rfl rfl (hdep ⟨2, .data⟩ (by simp) rfl)
                exact hI.pureQ (by kernel_rfl) hls rfl rfl rfl _ (run_extractQ rfl (eval_of hvp) rfl wn) (.like (IsC 5 RE [xOf (ofKey (k.set 31 (bits .andNot .u8 (k.getD 31 0) 128)))])) rfl ⟨_, rfl, hCp⟩ rfl hK'
              · obtain rfl := Option.some.inj ho
                obtain ⟨vp, hvp, ap, rfl, hCp⟩ := hI.haveQ 2 _ 22 (.like (IsCV 5 RE [xOf (ofKey (k.set 31 (bits .andNot .u8 (k.getD 31 0) 128)))] (.bool true))) rfl rfl rfl (hdep ⟨2, .data⟩ (by simp) rfl)
                exact hI.pureQ (by kernel_rfl) hls rfl rfl rfl (.bool true) (run_extractQ rfl (eval_of hvp) rfl wn) (.val (.bool true)) rfl rfl rfl hK'
              · obtain rfl := Option.some.inj ho
                exact hI.newQ (by kernel_rfl) hls (Nat.le_refl _) (newsQ_spec (l := [5]) (by kernel_rfl) ⟨⟨_, _, rfl⟩, trivial⟩) rfl rfl rfl 39 zE _ (run_allocQ rfl zE_run wn) rfl zE_ch hK'
              · exact hi.elim
            · intro an w6 hI
              obtain ⟨vr5_0, hvr5_0, hsr5_0⟩ := hI.haveQ 0 _ 23 (.val (.agg ar4_1)) rfl rfl rfl rfl
              obtain rfl := hsr5_0
              obtain ⟨vr5_1, hvr5_1, ar5_1, rfl, hCr5_1⟩ := hI.haveQ 1 _ 24 (.like (IsCV 5 RE [xOf (ofKey (k.set 31 (bits .andNot .u8 (k.getD 31 0) 128)))] (.bool true))) rfl rfl rfl rfl
              obtain ⟨vr5_2, hvr5_2, ar5_2, rfl, hCr5_2⟩ := hI.haveQ 2 _ 22 (.like (IsCV 5 RE [xOf (ofKey (k.set 31 (bits .andNot .u8 (k.getD 31 0) 128)))] (.bool true))) rfl rfl rfl rfl
              obtain ⟨vr5_3, hvr5_3, ar5_3, rfl, hCr5_3⟩ := hI.haveQ 3 _ 25 (.like (IsC 5 RE [xOf (ofKey (k.set 31 (bits .andNot .u8 (k.getD 31 0) 128)))])) rfl rfl rfl rfl
              obtain ⟨vr5_4, hvr5_4, hsr5_4⟩ := hI.haveQ 4 _ 26 (.val (.bool true)) rfl rfl rfl rfl
              obtain rfl := hsr5_4
              obtain ⟨vr5_5, hvr5_5, br5_5, zr5_5, rfl, hnr5_5, hbr5_5, hzr5_5⟩ := hI.haveQ 5 _ 6 (.blk ptrTo 39 (Ch 5 RE [0])) rfl rfl rfl rfl
              have hupd := hI.upd
              have ha := hI.act [(23, .agg ar4_1), (24, .tuple #[.agg ar5_1, .bool true]), (22, .tuple #[.agg ar5_2, .bool true]), (25, .agg ar5_3), (26, .bool true), (6, ptrTo br5_5)] (by simp [hvr5_0, hvr5_1, hvr5_2, hvr5_3, hvr5_4, hvr5_5]) (by kernel_rfl)
              clear hI hvr5_0 hvr5_1 hvr5_2 hvr5_3 hvr5_4 hvr5_5
              subst ha
              simp only [List.foldl_cons, List.foldl_nil, List.setIfInBounds_toArray, List.set_cons_zero, List.set_cons_succ]
              have hner5_5_Bxr0y0_s4_0 := Lib.hid (show br5_5 ≠ br0_0 from Nat.ne_of_gt (Nat.lt_of_lt_of_le Bxr0y0_s4_0.out.lt hnr5_5))
              have hner5_5_Bxr0y1_s4_0 := Lib.hid (show br5_5 ≠ br0_1 from Nat.ne_of_gt (Nat.lt_of_lt_of_le Bxr0y1_s4_0.out.lt hnr5_5))
              have hner5_5_Bxr4y2_s4_0 := Lib.hid (show br5_5 ≠ br4_2 from Nat.ne_of_gt (Nat.lt_of_lt_of_le Bxr4y2_s4_0.out.lt hnr5_5))
              have hger5_5 := Lib.hid (Nat.le_trans HU4_0.out.size hnr5_5)
              have Bxr0y0_5 := Lib.hid (hupd.blk (show Blk ws4_0 br0_0 23 (numsA .u8 (k.set 31 (bits .andNot .u8 (k.getD 31 0) 128))) from Bxr0y0_s4_0.out) (fun h => h))
              have Bxr0y1_5 := Lib.hid (hupd.blk (show Blk ws4_0 br0_1 41 zr0_1 from Bxr0y1_s4_0.out) (fun h => h))
              have Bxr4y2_5 := Lib.hid (hupd.blk (show Blk ws4_0 br4_2 39 ar4_1 from Bxr4y2_s4_0.out) (fun h => h))
              have Bxr5y5 := Lib.hid hbr5_5
              have HU5 := Lib.hid (HU4_0.out.trans hupd)
              clear hupd
              refine wpOps_storeQ 6 rfl rfl rfl 39 (.tmp 6) (.tmp 25) rfl br5_5 0 5 rfl ar5_3 rfl 39 zr5_5 Bxr5y5.out szE hCr5_3.size (by rw [hzr5_5.size]; exact Nat.le_of_ble_eq_true rfl) hCr5_3.one' ?_
              intro ws5_0 hs5_0 hus5_0
              rw [splice_all _ _ 5 hzr5_5.size hCr5_3.size] at hs5_0
              have Bxr0y0_s5_0 := Lib.hid (hus5_0.blk Bxr0y0_5.out (fun e => hner5_5_Bxr0y0_s4_0.out e.symm))
              have Bxr0y1_s5_0 := Lib.hid (hus5_0.blk Bxr0y1_5.out (fun e => hner5_5_Bxr0y1_s4_0.out e.symm))
              have Bxr4y2_s5_0 := Lib.hid (hus5_0.blk Bxr4y2_5.out (fun e => hner5_5_Bxr4y2_s4_0.out e.symm))
              have Bxr5y5_s5_0 := Lib.hid hs5_0
              have HU5_0 := Lib.hid (HU5.out.step hus5_0 (fun i hi h => absurd hi (Nat.not_lt.2 (h.symm ▸ hger5_5.out))))
              clear hs5_0 hus5_0
              refine wpOps_pureQ 7 rfl rfl 7 rfl (.bool true) (run_moveQ (x := .tmp 26) (v := .bool true) (.inr rfl) rfl _) ?_
              simp only [List.setIfInBounds_toArray, List.set_cons_zero, List.set_cons_succ]
              refine wpOps_nil ?_
              refine hK6 _ _ ?_
              clear hK6
              refine wp_seq_k fun K7 hK7 => ?_
              refine wp_seq_k fun K8 hK8 => ?_
              refine wp_region_qS 9 #[true, true, true, true, true, true, true, true, true] [] ([.val (.bool true), .val (.bool false), .val (.bool false), .val (.bool true), .val (.bool true), .val (.agg ar5_3), .val (.bool true), .val (.bool true), .val (.bool true)] : List SQ) (by kernel_rfl) (by kernel_rfl) (by kernel_rfl) ?_ ?_
              · intro i o listed an wn ho hls hst hun hdep hI hpre K' hK'
                have hi : i = 0 ∨ i = 1 ∨ i = 2 ∨ i = 3 ∨ i = 4 ∨ i = 5 ∨ i = 6 ∨ i = 7 ∨ i = 8 ∨ False := slot_cases (l := [0, 1, 2, 3, 4, 5, 6, 7, 8]) rfl ho hst
                rcases hi with rfl | rfl | rfl | rfl | rfl | rfl | rfl | rfl | rfl | hi
                · obtain rfl := Option.some.inj ho
                  have hvp : an.eval (.tmp 7) = .bool true := hI.oldQ (by kernel_rfl) rfl
                  exact hI.pureQ (by kernel_rfl) hls rfl rfl rfl (.bool true) (run_moveQ (.inl rfl) hvp wn) (.val (.bool true)) rfl rfl rfl hK'
                · obtain rfl := Option.some.inj ho
                  obtain ⟨vp, hvp, hsp⟩ := hI.haveQ 0 _ 27 (.val (.bool true)) rfl rfl rfl (hdep ⟨0, .data⟩ (by simp) rfl)
                  obtain rfl := hsp
                  exact hI.pureQ (by kernel_rfl) hls rfl rfl rfl (.bool false) (run_not rfl (eval_of hvp) wn) (.val (.bool false)) rfl rfl rfl hK'
                · obtain rfl := Option.some.inj ho
                  obtain ⟨vp, hvp, hsp⟩ := hI.haveQ 1 _ 28 (.val (.bool false)) rfl rfl rfl (hdep ⟨1, .data⟩ (by simp) rfl)
                  obtain rfl := hsp
                  exact hI.pureQ (by kernel_rfl) hls rfl rfl rfl (.bool false) (run_moveQ (.inl rfl) (eval_of hvp) wn) (.val (.bool false)) rfl rfl rfl hK'
                · obtain rfl := Option.some.inj ho
                  obtain ⟨vg, hvg, hsg⟩ := hI.haveQ 2 _ 29 (.val (.bool false)) rfl rfl rfl (hdep ⟨2, .guard⟩ (by simp) rfl)
                  obtain rfl := hsg
                  have hvp : an.eval (.tmp 4) = .bool true := hI.oldQ (by kernel_rfl) rfl
                  exact hI.pureQ (by kernel_rfl) hls rfl (wanted_of rfl rfl rfl hvg) rfl (.bool true) (run_moveQ (.inl rfl) hvp wn) (.val (.bool true)) rfl rfl rfl hK'
                · obtain rfl := Option.some.inj ho
                  obtain ⟨vg, hvg, hsg⟩ := hI.haveQ 2 _ 29 (.val (.bool false)) rfl rfl rfl (hdep ⟨2, .guard⟩ (by simp) rfl)
                  obtain rfl := hsg
                  obtain ⟨vp, hvp, hsp⟩ := hI.haveQ 3 _ 30 (.val (.bool true)) rfl rfl rfl (hdep ⟨3, .data⟩ (by simp) rfl)
                  obtain rfl := hsp
                  exact hI.pureQ (by kernel_rfl) hls rfl (wanted_of rfl rfl rfl hvg) rfl (.bool true) (run_moveQ (.inl rfl) (eval_of hvp) wn) (.val (.bool true)) rfl rfl rfl hK'
                · obtain rfl := Option.some.inj ho
                  obtain ⟨vg, hvg, hsg⟩ := hI.haveQ 4 _ 31 (.val (.bool true)) rfl rfl rfl (hdep ⟨4, .guard⟩ (by simp) rfl)
                  obtain rfl := hsg
                  have hvp : an.eval (.tmp 6) = ptrTo br5_5 := hI.oldQ (by kernel_rfl) rfl
                  exact hI.pureQ (by kernel_rfl) hls rfl (wanted_of rfl rfl rfl hvg) rfl _ (run_loadQ rfl hvp wn (hI.upd.blk (show Blk ws5_0 br5_5 39 ar5_3 from Bxr5y5_s5_0.out) (fun h => h)) Tryd.underlying39 rfl szE (by rw [hCr5_3.size]; exact Nat.le_of_ble_eq_true rfl)) (.val (.agg ar5_3)) rfl (congrArg Value.agg (extract_all _ 5 hCr5_3.size)) rfl hK'
                · obtain rfl := Option.some.inj ho
                  obtain ⟨vg, hvg, hsg⟩ := hI.haveQ 4 _ 31 (.val (.bool true)) rfl rfl rfl (hdep ⟨4, .guard⟩ (by simp) rfl)
                  obtain rfl := hsg
                  obtain ⟨vp, hvp, hsp⟩ := hI.haveQ 5 _ 32 (.val (.agg ar5_3)) rfl rfl rfl (hdep ⟨5, .data⟩ (by simp) rfl)
                  obtain rfl := hsp
                  exact hI.callQ (by kernel_rfl) hls rfl (wanted_of rfl rfl rfl hvg) rfl 62 #[.tmp 32] _ rfl #[.agg ar5_3] (by simp [eval_of hvp]) (run_enter Tryd.func62 (by kernel_rfl) (by kernel_rfl)) (.val (.bool true)) rfl rfl ((isZeroE hCr5_3).mono fun _ _ h => ret_val (ret_b h hx)) hK'
                · obtain rfl := Option.some.inj ho
                  obtain ⟨vg, hvg, hsg⟩ := hI.haveQ 2 _ 29 (.val (.bool false)) rfl rfl rfl (hdep ⟨2, .guard⟩ (by simp) rfl)
                  obtain rfl := hsg
                  obtain ⟨vp, hvp, hsp⟩ := hI.haveQ 4 _ 31 (.val (.bool true)) rfl rfl rfl (hdep ⟨4, .data⟩ (by simp) rfl)
                  obtain rfl := hsp
                  obtain ⟨vq, hvq, hsq⟩ := hI.haveQ 6 _ 33 (.val (.bool true)) rfl rfl rfl (hdep ⟨6, .data⟩ (by simp) rfl)
                  obtain rfl := hsq
                  exact hI.pureQ (by kernel_rfl) hls rfl (wanted_of rfl rfl rfl hvg) rfl (.bool true) (run_pickT rfl (eval_of hvp) (eval_of hvq) wn) (.val (.bool true)) rfl rfl rfl hK'
                · obtain rfl := Option.some.inj ho
                  obtain ⟨vp, hvp, hsp⟩ := hI.haveQ 2 _ 29 (.val (.bool false)) rfl rfl rfl (hdep ⟨2, .data⟩ (by simp) rfl)
                  obtain rfl := hsp
                  obtain ⟨vq, hvq, hsq⟩ := hI.haveQ 7 _ 34 (.val (.bool true)) rfl rfl rfl (hdep ⟨7, .data⟩ (by simp) rfl)
                  obtain rfl := hsq
                  exact hI.pureQ (by kernel_rfl) hls rfl rfl rfl (.bool true) (run_pickF rfl (eval_of hvp) (eval_of hvq) wn) (.val (.bool true)) rfl rfl rfl hK'
                · exact hi.elim
              · intro an w7 hI
                obtain ⟨vr6_0, hvr6_0, hsr6_0⟩ := hI.haveQ 0 _ 27 (.val (.bool true)) rfl rfl rfl rfl
                obtain rfl := hsr6_0
                obtain ⟨vr6_1, hvr6_1, hsr6_1⟩ := hI.haveQ 1 _ 28 (.val (.bool false)) rfl rfl rfl rfl
                obtain rfl := hsr6_1
                obtain ⟨vr6_2, hvr6_2, hsr6_2⟩ := hI.haveQ 2 _ 29 (.val (.bool false)) rfl rfl rfl rfl
                obtain rfl := hsr6_2
                obtain ⟨vr6_3, hvr6_3, hsr6_3⟩ := hI.haveQ 3 _ 30 (.val (.bool true)) rfl rfl rfl rfl
                obtain rfl := hsr6_3
                obtain ⟨vr6_4, hvr6_4, hsr6_4⟩ := hI.haveQ 4 _ 31 (.val (.bool true)) rfl rfl rfl rfl
                obtain rfl := hsr6_4
                obtain ⟨vr6_5, hvr6_5, hsr6_5⟩ := hI.haveQ 5 _ 32 (.val (.agg ar5_3)) rfl rfl rfl rfl
                obtain rfl := hsr6_5
                obtain ⟨vr6_6, hvr6_6, hsr6_6⟩ := hI.haveQ 6 _ 33 (.val (.bool true)) rfl rfl rfl rfl
                obtain rfl := hsr6_6
                obtain ⟨vr6_7, hvr6_7, hsr6_7⟩ := hI.haveQ 7 _ 34 (.val (.bool true)) rfl rfl rfl rfl
                obtain rfl := hsr6_7
                obtain ⟨vr6_8, hvr6_8, hsr6_8⟩ := hI.haveQ 8 _ 35 (.val (.bool true)) rfl rfl rfl rfl
                obtain rfl := hsr6_8
                have hupd := hI.upd
                have ha := hI.act [(27, .bool true), (28, .bool false), (29, .bool false), (30, .bool true), (31, .bool true), (32, .agg ar5_3), (33, .bool true), (34, .bool true), (35, .bool true)] (by simp [hvr6_0, hvr6_1, hvr6_2, hvr6_3, hvr6_4, hvr6_5, hvr6_6, hvr6_7, hvr6_8]) (by kernel_rfl)
                clear hI hvr6_0 hvr6_1 hvr6_2 hvr6_3 hvr6_4 hvr6_5 hvr6_6 hvr6_7 hvr6_8
                subst ha
                simp only [List.foldl_cons, List.foldl_nil, List.setIfInBounds_toArray, List.set_cons_zero, List.set_cons_succ]
                have Bxr0y0_6 := Lib.hid (hupd.blk (show Blk ws5_0 br0_0 23 (numsA .u8 (k.set 31 (bits .andNot .u8 (k.getD 31 0) 128))) from Bxr0y0_s5_0.out) (fun h => h))
                have Bxr0y1_6 := Lib.hid (hupd.blk (show Blk ws5_0 br0_1 41 zr0_1 from Bxr0y1_s5_0.out) (fun h => h))
                have Bxr4y2_6 := Lib.hid (hupd.blk (show Blk ws5_0 br4_2 39 ar4_1 from Bxr4y2_s5_0.out) (fun h => h))
                have Bxr5y5_6 := Lib.hid (hupd.blk (show Blk ws5_0 br5_5 39 ar5_3 from Bxr5y5_s5_0.out) (fun h => h))
                have HU6 := Lib.hid (HU5_0.out.trans hupd)
                clear hupd
                refine wpOps_nil ?_
                refine hK8 _ _ ?_
                clear hK8
                refine wp_cond_true rfl ?_
                refine wp_seq_k fun K9 hK9 => ?_
                refine wp_region_qS 1 #[true, false, false] [1, 2] ([.val (.agg zPt), .val undef, .val undef] : List SQ) (by kernel_rfl) (by kernel_rfl) (by kernel_rfl) ?_ ?_
                · intro i o listed an wn ho hls hst hun hdep hI hpre K' hK'
                  have hi : i = 0 ∨ False := slot_cases (l := [0]) rfl ho hst
                  rcases hi with rfl | hi
                  · obtain rfl := Option.some.inj ho
                    exact hI.pureQ (by kernel_rfl) hls rfl rfl rfl (.agg zPt) (run_buildPt0 rfl wn) (.val (.agg zPt)) rfl rfl rfl hK'
                  · exact hi.elim
                · intro an w8 hI
                  obtain ⟨vr7_0, hvr7_0, hsr7_0⟩ := hI.haveQ 0 _ 36 (.val (.agg zPt)) rfl rfl rfl rfl
                  obtain rfl := hsr7_0
                  have hupd := hI.upd
                  have ha := hI.act [(36, .agg zPt)] (by simp [hvr7_0]) (by kernel_rfl)
                  clear hI hvr7_0
                  subst ha
                  simp only [List.foldl_cons, List.foldl_nil, List.setIfInBounds_toArray, List.set_cons_zero, List.set_cons_succ]
                  have Bxr0y0_7 := Lib.hid (hupd.blk (show Blk w7 br0_0 23 (numsA .u8 (k.set 31 (bits .andNot .u8 (k.getD 31 0) 128))) from Bxr0y0_6.out) (fun h => h))
                  have Bxr0y1_7 := Lib.hid (hupd.blk (show Blk w7 br0_1 41 zr0_1 from Bxr0y1_6.out) (fun h => h))
                  have Bxr4y2_7 := Lib.hid (hupd.blk (show Blk w7 br4_2 39 ar4_1 from Bxr4y2_6.out) (fun h => h))
                  have Bxr5y5_7 := Lib.hid (hupd.blk (show Blk w7 br5_5 39 ar5_3 from Bxr5y5_6.out) (fun h => h))
                  have HU7 := Lib.hid (HU6.out.trans hupd)
                  clear hupd
                  refine wpOps_storeQ 1 rfl rfl rfl 41 (.tmp 2) (.tmp 36) rfl br0_1 0 20 rfl zPt rfl 41 zr0_1 Bxr0y1_7.out szPt zPt_ch.size (by rw [hzr0_1.size]; exact Nat.le_of_ble_eq_true rfl) zPt_ch.one' ?_
                  intro ws7_0 hs7_0 hus7_0
                  rw [splice_all _ _ 20 hzr0_1.size zPt_ch.size] at hs7_0
                  have Bxr0y0_s7_0 := Lib.hid (hus7_0.blk Bxr0y0_7.out (fun e => hner0_0_r0_1.out e))
                  have Bxr4y2_s7_0 := Lib.hid (hus7_0.blk Bxr4y2_7.out (fun e => hner4_2_Bxr0y1_3.out e))
                  have Bxr5y5_s7_0 := Lib.hid (hus7_0.blk Bxr5y5_7.out (fun e => hner5_5_Bxr0y1_s4_0.out e))
                  have Bxr0y1_s7_0 := Lib.hid hs7_0
                  have HU7_0 := Lib.hid (HU7.out.step hus7_0 (fun i hi h => absurd hi (Nat.not_lt.2 (h.symm ▸ hger0_1.out))))
                  clear hs7_0 hus7_0
                  refine wpOps_pureQ 2 rfl rfl 3 rfl (.int .i64 60) (run_moveQ (x := .const (.int .i64 60)) (v := .int .i64 60) (.inr rfl) rfl _) ?_
                  simp only [List.setIfInBounds_toArray, List.set_cons_zero, List.set_cons_succ]
                  refine wpOps_nil ?_
                  refine hK9 _ _ ?_
                  clear hK9
                  refine wp_ret ?_
                  try dsimp only [Exit.then]
                  try dsimp only [Exit.inBlock]
                  exact bodyPost_ret (v := .tuple #[.agg zPt, .int .i64 60]) (results_cell_tmpQ (fn := Tryd.f24) (p := 2) (q := 3) (ty := 41) rfl _ _ br0_1 zPt (.int .i64 60) rfl rfl Bxr0y1_s7_0.out Tryd.underlying41 rfl (by rw [zPt_ch.size]; exact szPt)) rfl ⟨_, rfl, zPt_ch, HU7_0.out⟩
set_option maxHeartbeats 4000000 in
theorem decodeD {k : List Int} (w : World) (hT : Tw w) (hl : k.length = 32) (hd : Digs 256 k) (hc : canonB (k.set 31 (bits .andNot .u8 (k.getD 31 0) 128)) = true) (hr : isY (ofKey (k.set 31 (bits .andNot .u8 (k.getD 31 0) 128))) = true) (hodd : decide ((bits .and .u8 (k.getD 31 0) 128) = 0) = false) (hx : decide (xOf (ofKey (k.set 31 (bits .andNot .u8 (k.getD 31 0) 128))) = 0) = false) :
    Calls Tryd.prog 24 #[.agg (numsA .u8 k)] w (RetCV 5 RE [-(xOf (ofKey (k.set 31 (bits .andNot .u8 (k.getD 31 0) 128)))), ofKey (k.set 31 (bits .andNot .u8 (k.getD 31 0) 128)), fv 1, (-(xOf (ofKey (k.set 31 (bits .andNot .u8 (k.getD 31 0) 128))))) * (ofKey (k.set 31 (bits .andNot .u8 (k.getD 31 0) 128)))] (.int .i64 0) w) := by
  have HT := Lib.hid hT
  clear hT
  have HU := Lib.hid (Upd.refl (fun _ => False) w)
  go_enter Tryd.func24, Tryd.ntmps24
  refine wp_seq_k fun K0 hK0 => ?_
  refine wp_region_qS 3 #[true, true, true] [] ([.blk ptrTo 23 (fun z => z = numsA .u8 k), .blk ptrTo 41 (Ch 5 RE [0, 0, 0, 0]), .val (.int .i64 0)] : List SQ) (by kernel_rfl) (by kernel_rfl) (by kernel_rfl) ?_ ?_
  · intro i o listed an wn ho hls hst hun hdep hI hpre K' hK'
    have hi : i = 0 ∨ i = 1 ∨ i = 2 ∨ False := slot_cases (l := [0, 1, 2]) rfl ho hst
    rcases hi with rfl | rfl | rfl | hi
    · obtain rfl := Option.some.inj ho
      have hvp : an.eval (.tmp 0) = .agg (numsA .u8 k) := hI.oldQ (by kernel_rfl) rfl
      exact hI.newQ (by kernel_rfl) hls (Nat.le_refl _) (newsQ_spec (l := [0, 1]) (by kernel_rfl) ⟨⟨_, _, rfl⟩, ⟨_, _, rfl⟩, trivial⟩) rfl rfl rfl 23 _ (fun z => z = numsA .u8 k) (run_boxQ rfl hvp wn) rfl rfl hK'
    · obtain rfl := Option.some.inj ho
      exact hI.newQ (by kernel_rfl) hls (Nat.le_refl _) (newsQ_spec (l := [0, 1]) (by kernel_rfl) ⟨⟨_, _, rfl⟩, ⟨_, _, rfl⟩, trivial⟩) rfl rfl rfl 41 zPt _ (run_allocQ rfl zPt_run wn) rfl zPt_ch hK'
    · obtain rfl := Option.some.inj ho
      exact hI.pureQ (by kernel_rfl) hls rfl rfl rfl (.int .i64 0) (run_moveQ (.inr rfl) (show an.eval (.const (.int .i64 0)) = .int .i64 0 from rfl) wn) (.val (.int .i64 0)) rfl rfl rfl hK'
    · exact hi.elim
  · intro an w1 hI
    obtain ⟨vr0_0, hvr0_0, br0_0, zr0_0, rfl, hnr0_0, hbr0_0, hzr0_0⟩ := hI.haveQ 0 _ 1 (.blk ptrTo 23 (fun z => z = numsA .u8 k)) rfl rfl rfl rfl
    rw [hzr0_0] at hbr0_0
    clear hzr0_0
    obtain ⟨vr0_1, hvr0_1, br0_1, zr0_1, rfl, hnr0_1, hbr0_1, hzr0_1⟩ := hI.haveQ 1 _ 2 (.blk ptrTo 41 (Ch 5 RE [0, 0, 0, 0])) rfl rfl rfl rfl
    obtain ⟨vr0_2, hvr0_2, hsr0_2⟩ := hI.haveQ 2 _ 3 (.val (.int .i64 0)) rfl rfl rfl rfl
    obtain rfl := hsr0_2
    have hupd := hI.upd
    have hner0_0_r0_1 := Lib.hid (show br0_0 ≠ br0_1 from fun e => hI.apart 0 1 _ _ 1 2 (by omega) rfl rfl rfl rfl rfl rfl rfl rfl (by rw [hvr0_0, hvr0_1, e]))
    have ha := hI.act [(1, ptrTo br0_0), (2, ptrTo br0_1), (3, .int .i64 0)] (by simp [hvr0_0, hvr0_1, hvr0_2]) (by kernel_rfl)
    clear hI hvr0_0 hvr0_1 hvr0_2
    subst ha
    simp only [List.foldl_cons, List.foldl_nil, List.setIfInBounds_toArray, List.set_cons_zero, List.set_cons_succ]
    have hger0_0 := Lib.hid (Nat.le_trans HU.out.size hnr0_0)
    have hger0_1 := Lib.hid (Nat.le_trans HU.out.size hnr0_1)
    have Bxr0y0 := Lib.hid hbr0_0
    have Bxr0y1 := Lib.hid hbr0_1
    have HU0 := Lib.hid (HU.out.trans hupd)
    clear hupd
    refine wpOps_nil ?_
    refine hK0 _ _ ?_
    clear hK0
    refine wp_seq_k fun K1 hK1 => ?_
    refine wp_region_qS 5 #[true, true, true, true, true] [] ([.val (.pointer (some ⟨br0_0, 0 + 31, none⟩)), .val (.int .u8 (k.getD 31 0)), .val (.int .u8 (bits .and .u8 (k.getD 31 0) 128)), .val (.bool true), .val (.bool true)] : List SQ) (by kernel_rfl) (by kernel_rfl) (by kernel_rfl) ?_ ?_
    · intro i o listed an wn ho hls hst hun hdep hI hpre K' hK'
      have hi : i = 0 ∨ i = 1 ∨ i = 2 ∨ i = 3 ∨ i = 4 ∨ False := slot_cases (l := [0, 1, 2, 3, 4]) rfl ho hst
      rcases hi with rfl | rfl | rfl | rfl | rfl | hi
      · obtain rfl := Option.some.inj ho
        have hvp : an.eval (.tmp 1) = ptrTo br0_0 := hI.oldQ (by kernel_rfl) rfl
        exact hI.pureQ (by kernel_rfl) hls rfl rfl rfl (.pointer (some ⟨br0_0, 0 + 31, none⟩)) (run_adr (off := 0) (i := 31) rfl Tryd.underlying23 size5 hvp rfl (by omega) wn) (.val (.pointer (some ⟨br0_0, 0 + 31, none⟩))) rfl rfl rfl hK'
      · obtain rfl := Option.some.inj ho
        obtain ⟨vp, hvp, hsp⟩ := hI.haveQ 0 _ 8 (.val (.pointer (some ⟨br0_0, 0 + 31, none⟩))) rfl rfl rfl (hdep ⟨0, .data⟩ (by simp) rfl)
        obtain rfl := hsp
        exact hI.pureQ (by kernel_rfl) hls rfl rfl rfl (.int .u8 (k.getD 31 0)) (run_cellQ rfl Tryd.underlying5 (eval_of hvp) wn (hI.upd.blk (show Blk w1 br0_0 23 (numsA .u8 k) from Bxr0y0.out) (fun h => h)) (by rw [Nat.zero_add]; exact numsA_get _ _ _ (by rw [hl]; omega))) (.val (.int .u8 (k.getD 31 0))) rfl rfl rfl hK'
      · obtain rfl := Option.some.inj ho
        obtain ⟨vp, hvp, hsp⟩ := hI.haveQ 1 _ 9 (.val (.int .u8 (k.getD 31 0))) rfl rfl rfl (hdep ⟨1, .data⟩ (by simp) rfl)
        obtain rfl := hsp
        exact hI.pureQ (by kernel_rfl) hls rfl rfl rfl (.int .u8 (bits .and .u8 (k.getD 31 0) 128)) (run_andB8 rfl (eval_of hvp) rfl wn) (.val (.int .u8 (bits .and .u8 (k.getD 31 0) 128))) rfl rfl rfl hK'
      · obtain rfl := Option.some.inj ho
        obtain ⟨vp, hvp, hsp⟩ := hI.haveQ 2 _ 10 (.val (.int .u8 (bits .and .u8 (k.getD 31 0) 128))) rfl rfl rfl (hdep ⟨2, .data⟩ (by simp) rfl)
        obtain rfl := hsp
        exact hI.pureQ (by kernel_rfl) hls rfl rfl rfl (.bool true) (run_neq rfl (eval_of hvp) rfl (ne_of_eqB hodd) wn) (.val (.bool true)) rfl rfl rfl hK'
      · obtain rfl := Option.some.inj ho
        obtain ⟨vp, hvp, hsp⟩ := hI.haveQ 3 _ 11 (.val (.bool true)) rfl rfl rfl (hdep ⟨3, .data⟩ (by simp) rfl)
        obtain rfl := hsp
        exact hI.pureQ (by kernel_rfl) hls rfl rfl rfl (.bool true) (run_moveQ (.inr rfl) (eval_of hvp) wn) (.val (.bool true)) rfl rfl rfl hK'
      · exact hi.elim
    · intro an w2 hI
      obtain ⟨vr1_0, hvr1_0, hsr1_0⟩ := hI.haveQ 0 _ 8 (.val (.pointer (some ⟨br0_0, 0 + 31, none⟩))) rfl rfl rfl rfl
      obtain rfl := hsr1_0
      obtain ⟨vr1_1, hvr1_1, hsr1_1⟩ := hI.haveQ 1 _ 9 (.val (.int .u8 (k.getD 31 0))) rfl rfl rfl rfl
      obtain rfl := hsr1_1
      obtain ⟨vr1_2, hvr1_2, hsr1_2⟩ := hI.haveQ 2 _ 10 (.val (.int .u8 (bits .and .u8 (k.getD 31 0) 128))) rfl rfl rfl rfl
      obtain rfl := hsr1_2
      obtain ⟨vr1_3, hvr1_3, hsr1_3⟩ := hI.haveQ 3 _ 11 (.val (.bool true)) rfl rfl rfl rfl
      obtain rfl := hsr1_3
      obtain ⟨vr1_4, hvr1_4, hsr1_4⟩ := hI.haveQ 4 _ 4 (.val (.bool true)) rfl rfl rfl rfl
      obtain rfl := hsr1_4
      have hupd := hI.upd
      have ha := hI.act [(8, .pointer (some ⟨br0_0, 0 + 31, none⟩)), (9, .int .u8 (k.getD 31 0)), (10, .int .u8 (bits .and .u8 (k.getD 31 0) 128)), (11, .bool true), (4, .bool true)] (by simp [hvr1_0, hvr1_1, hvr1_2, hvr1_3, hvr1_4]) (by kernel_rfl)
      clear hI hvr1_0 hvr1_1 hvr1_2 hvr1_3 hvr1_4
      subst ha
      simp only [List.foldl_cons, List.foldl_nil, List.setIfInBounds_toArray, List.set_cons_zero, List.set_cons_succ]
      have Bxr0y0_1 := Lib.hid (hupd.blk (show Blk w1 br0_0 23 (numsA .u8 k) from Bxr0y0.out) (fun h => h))
      have Bxr0y1_1 := Lib.hid (hupd.blk (show Blk w1 br0_1 41 zr0_1 from Bxr0y1.out) (fun h => h))
      have HU1 := Lib.hid (HU0.out.trans hupd)
      clear hupd
      refine wpOps_nil ?_
      refine hK1 _ _ ?_
      clear hK1
      refine wp_seq_k fun K2 hK2 => ?_
      refine wp_region_qS 4 #[true, true, true, true, false] [4] ([.val (.pointer (some ⟨br0_0, 0 + 31, none⟩)), .val (.int .u8 (k.getD 31 0)), .val (.int .u8 (bits .andNot .u8 (k.getD 31 0) 128)), .val (.pointer (some ⟨br0_0, 0 + 31, none⟩)), .val undef] : List SQ) (by kernel_rfl) (by kernel_rfl) (by kernel_rfl) ?_ ?_
      · intro i o listed an wn ho hls hst hun hdep hI hpre K' hK'
        have hi : i = 0 ∨ i = 1 ∨ i = 2 ∨ i = 3 ∨ False := slot_cases (l := [0, 1, 2, 3]) rfl ho hst
        rcases hi with rfl | rfl | rfl | rfl | hi
        · obtain rfl := Option.some.inj ho
          have hvp : an.eval (.tmp 1) = ptrTo br0_0 := hI.oldQ (by kernel_rfl) rfl
          exact hI.pureQ (by kernel_rfl) hls rfl rfl rfl (.pointer (some ⟨br0_0, 0 + 31, none⟩)) (run_adr (off := 0) (i := 31) rfl Tryd.underlying23 size5 hvp rfl (by omega) wn) (.val (.pointer (some ⟨br0_0, 0 + 31, none⟩))) rfl rfl rfl hK'
        · obtain rfl := Option.some.inj ho
          obtain ⟨vp, hvp, hsp⟩ := hI.haveQ 0 _ 12 (.val (.pointer (some ⟨br0_0, 0 + 31, none⟩))) rfl rfl rfl (hdep ⟨0, .data⟩ (by simp) rfl)
          obtain rfl := hsp
          exact hI.pureQ (by kernel_rfl) hls rfl rfl rfl (.int .u8 (k.getD 31 0)) (run_cellQ rfl Tryd.underlying5 (eval_of hvp) wn (hI.upd.blk (show Blk w2 br0_0 23 (numsA .u8 k) from Bxr0y0_1.out) (fun h => h)) (by rw [Nat.zero_add]; exact numsA_get _ _ _ (by rw [hl]; omega))) (.val (.int .u8 (k.getD 31 0))) rfl rfl rfl hK'
        · obtain rfl := Option.some.inj ho
          obtain ⟨vp, hvp, hsp⟩ := hI.haveQ 1 _ 13 (.val (.int .u8 (k.getD 31 0))) rfl rfl rfl (hdep ⟨1, .data⟩ (by simp) rfl)
          obtain rfl := hsp
          exact hI.pureQ (by kernel_rfl) hls rfl rfl rfl (.int .u8 (bits .andNot .u8 (k.getD 31 0) 128)) (run_andNot8 rfl (eval_of hvp) rfl wn) (.val (.int .u8 (bits .andNot .u8 (k.getD 31 0) 128))) rfl rfl rfl hK'
        · obtain rfl := Option.some.inj ho
          have hvp : an.eval (.tmp 1) = ptrTo br0_0 := hI.oldQ (by kernel_rfl) rfl
          exact hI.pureQ (by kernel_rfl) hls rfl rfl rfl (.pointer (some ⟨br0_0, 0 + 31, none⟩)) (run_adr (off := 0) (i := 31) rfl Tryd.underlying23 size5 hvp rfl (by omega) wn) (.val (.pointer (some ⟨br0_0, 0 + 31, none⟩))) rfl rfl rfl hK'
        · exact hi.elim
      · intro an w3 hI
        obtain ⟨vr2_0, hvr2_0, hsr2_0⟩ := hI.haveQ 0 _ 12 (.val (.pointer (some ⟨br0_0, 0 + 31, none⟩))) rfl rfl rfl rfl
        obtain rfl := hsr2_0
        obtain ⟨vr2_1, hvr2_1, hsr2_1⟩ := hI.haveQ 1 _ 13 (.val (.int .u8 (k.getD 31 0))) rfl rfl rfl rfl
        obtain rfl := hsr2_1
        obtain ⟨vr2_2, hvr2_2, hsr2_2⟩ := hI.haveQ 2 _ 14 (.val (.int .u8 (bits .andNot .u8 (k.getD 31 0) 128))) rfl rfl rfl rfl
        obtain rfl := hsr2_2
        obtain ⟨vr2_3, hvr2_3, hsr2_3⟩ := hI.haveQ 3 _ 15 (.val (.pointer (some ⟨br0_0, 0 + 31, none⟩))) rfl rfl rfl rfl
        obtain rfl := hsr2_3
        have hupd := hI.upd
        have ha := hI.act [(12, .pointer (some ⟨br0_0, 0 + 31, none⟩)), (13, .int .u8 (k.getD 31 0)), (14, .int .u8 (bits .andNot .u8 (k.getD 31 0) 128)), (15, .pointer (some ⟨br0_0, 0 + 31, none⟩))] (by simp [hvr2_0, hvr2_1, hvr2_2, hvr2_3]) (by kernel_rfl)
        clear hI hvr2_0 hvr2_1 hvr2_2 hvr2_3
        subst ha
        simp only [List.foldl_cons, List.foldl_nil, List.setIfInBounds_toArray, List.set_cons_zero, List.set_cons_succ]
        have Bxr0y0_2 := Lib.hid (hupd.blk (show Blk w2 br0_0 23 (numsA .u8 k) from Bxr0y0_1.out) (fun h => h))
        have Bxr0y1_2 := Lib.hid (hupd.blk (show Blk w2 br0_1 41 zr0_1 from Bxr0y1_1.out) (fun h => h))
        have HU2 := Lib.hid (HU1.out.trans hupd)
        clear hupd
        refine wpOps_storeB 4 rfl rfl rfl 5 (.tmp 15) (.tmp 14) rfl size5 br0_0 (0 + 31) rfl (bits .andNot .u8 (k.getD 31 0) 128) rfl 23 k Bxr0y0_2.out (by rw [hl]; omega) ?_
        rw [Nat.zero_add]
        intro ws2_0 hs2_0 hus2_0
        have Bxr0y1_s2_0 := Lib.hid (hus2_0.blk Bxr0y1_2.out (fun e => hner0_0_r0_1.out e.symm))
        have Bxr0y0_s2_0 := Lib.hid hs2_0
        have HU2_0 := Lib.hid (HU2.out.step hus2_0 (fun i hi h => absurd hi (Nat.not_lt.2 (h.symm ▸ hger0_0.out))))
        clear hs2_0 hus2_0
        refine wpOps_nil ?_
        refine hK2 _ _ ?_
        clear hK2
        refine wp_seq_k fun K3 hK3 => ?_
        refine wp_seq_k fun K4 hK4 => ?_
        refine wp_region_qS 3 #[true, true, true] [] ([.val (.agg (numsA .u8 (k.set 31 (bits .andNot .u8 (k.getD 31 0) 128)))), .val (.bool true), .val (.bool false)] : List SQ) (by kernel_rfl) (by kernel_rfl) (by kernel_rfl) ?_ ?_
        · intro i o listed an wn ho hls hst hun hdep hI hpre K' hK'
          have hi : i = 0 ∨ i = 1 ∨ i = 2 ∨ False := slot_cases (l := [0, 1, 2]) rfl ho hst
          rcases hi with rfl | rfl | rfl | hi
          · obtain rfl := Option.some.inj ho
            have hvp : an.eval (.tmp 1) = ptrTo br0_0 := hI.oldQ (by kernel_rfl) rfl
            exact hI.pureQ (by kernel_rfl) hls rfl rfl rfl _ (run_loadQ rfl hvp wn (hI.upd.blk (show Blk ws2_0 br0_0 23 (numsA .u8 (k.set 31 (bits .andNot .u8 (k.getD 31 0) 128))) from Bxr0y0_s2_0.out) (fun h => h)) Tryd.underlying23 rfl sizeKey (by rw [numsA_size, (set_length hl _ _)]; omega)) (.val (.agg (numsA .u8 (k.set 31 (bits .andNot .u8 (k.getD 31 0) 128))))) rfl (congrArg Value.agg (extract_all _ 32 (by rw [numsA_size]; exact (set_length hl _ _)))) rfl hK'
          · obtain rfl := Option.some.inj ho
            obtain ⟨vp, hvp, hsp⟩ := hI.haveQ 0 _ 16 (.val (.agg (numsA .u8 (k.set 31 (bits .andNot .u8 (k.getD 31 0) 128))))) rfl rfl rfl (hdep ⟨0, .data⟩ (by simp) rfl)
            obtain rfl := hsp
            exact hI.callQ (by kernel_rfl) hls rfl rfl rfl 60 #[.tmp 16] _ rfl #[.agg (numsA .u8 (k.set 31 (bits .andNot .u8 (k.getD 31 0) 128)))] (by simp [eval_of hvp]) (run_enter Tryd.func60 (by kernel_rfl) (by kernel_rfl)) (.val (.bool true)) rfl rfl ((canonicalE (k.set 31 (bits .andNot .u8 (k.getD 31 0) 128)) (set_length hl _ _) (digs_set hd _ _ (andNot8_bnd _ _ (Digs.get (B := 256) (by decide) hd _) (by decide)).1 (andNot8_bnd _ _ (Digs.get (B := 256) (by decide) hd _) (by decide)).2)).mono fun _ _ h => ret_val (ret_b h hc)) hK'
          · obtain rfl := Option.some.inj ho
            obtain ⟨vp, hvp, hsp⟩ := hI.haveQ 1 _ 17 (.val (.bool true)) rfl rfl rfl (hdep ⟨1, .data⟩ (by simp) rfl)
            obtain rfl := hsp
            exact hI.pureQ (by kernel_rfl) hls rfl rfl rfl (.bool false) (run_not rfl (eval_of hvp) wn) (.val (.bool false)) rfl rfl rfl hK'
          · exact hi.elim
        · intro an w4 hI
          obtain ⟨vr3_0, hvr3_0, hsr3_0⟩ := hI.haveQ 0 _ 16 (.val (.agg (numsA .u8 (k.set 31 (bits .andNot .u8 (k.getD 31 0) 128))))) rfl rfl rfl rfl
          obtain rfl := hsr3_0
          obtain ⟨vr3_1, hvr3_1, hsr3_1⟩ := hI.haveQ 1 _ 17 (.val (.bool true)) rfl rfl rfl rfl
          obtain rfl := hsr3_1
          obtain ⟨vr3_2, hvr3_2, hsr3_2⟩ := hI.haveQ 2 _ 18 (.val (.bool false)) rfl rfl rfl rfl
          obtain rfl := hsr3_2
          have hupd := hI.upd
          have ha := hI.act [(16, .agg (numsA .u8 (k.set 31 (bits .andNot .u8 (k.getD 31 0) 128)))), (17, .bool true), (18, .bool false)] (by simp [hvr3_0, hvr3_1, hvr3_2]) (by kernel_rfl)
          clear hI hvr3_0 hvr3_1 hvr3_2
          subst ha
          simp only [List.foldl_cons, List.foldl_nil, List.setIfInBounds_toArray, List.set_cons_zero, List.set_cons_succ]
          have Bxr0y0_3 := Lib.hid (hupd.blk (show Blk ws2_0 br0_0 23 (numsA .u8 (k.set 31 (bits .andNot .u8 (k.getD 31 0) 128))) from Bxr0y0_s2_0.out) (fun h => h))
          have Bxr0y1_3 := Lib.hid (hupd.blk (show Blk ws2_0 br0_1 41 zr0_1 from Bxr0y1_s2_0.out) (fun h => h))
          have HU3 := Lib.hid (HU2_0.out.trans hupd)
          clear hupd
          refine wpOps_nil ?_
          refine hK4 _ _ ?_
          clear hK4
          refine wp_cond_false rfl ?_
          refine wp_skip ?_
          refine hK3 _ _ ?_
          clear hK3
          refine wp_seq_k fun K5 hK5 => ?_
          refine wp_region_qS 3 #[true, true, true, false] [3] ([.val (.agg (numsA .u8 (k.set 31 (bits .andNot .u8 (k.getD 31 0) 128)))), .like (IsC 5 RE [ofKey (k.set 31 (bits .andNot .u8 (k.getD 31 0) 128))]), .blk ptrTo 39 (Ch 5 RE [0]), .val undef] : List SQ) (by kernel_rfl) (by kernel_rfl) (by kernel_rfl) ?_ ?_
          · intro i o listed an wn ho hls hst hun hdep hI hpre K' hK'
            have hi : i = 0 ∨ i = 1 ∨ i = 2 ∨ False := slot_cases (l := [0, 1, 2]) rfl ho hst
            rcases hi with rfl | rfl | rfl | hi
            · obtain rfl := Option.some.inj ho
              have hvp : an.eval (.tmp 1) = ptrTo br0_0 := hI.oldQ (by kernel_rfl) rfl
              exact hI.pureQ (by kernel_rfl) hls rfl rfl rfl _ (run_loadQ rfl hvp wn (hI.upd.blk (show Blk w4 br0_0 23 (numsA .u8 (k.set 31 (bits .andNot .u8 (k.getD 31 0) 128))) from Bxr0y0_3.out) (fun h => h)) Tryd.underlying23 rfl sizeKey (by rw [numsA_size, (set_length hl _ _)]; omega)) (.val (.agg (numsA .u8 (k.set 31 (bits .andNot .u8 (k.getD 31 0) 128))))) rfl (congrArg Value.agg (extract_all _ 32 (by rw [numsA_size]; exact (set_length hl _ _)))) rfl hK'
            · obtain rfl := Option.some.inj ho
              obtain ⟨vp, hvp, hsp⟩ := hI.haveQ 0 _ 20 (.val (.agg (numsA .u8 (k.set 31 (bits .andNot .u8 (k.getD 31 0) 128))))) rfl rfl rfl (hdep ⟨0, .data⟩ (by simp) rfl)
              obtain rfl := hsp
              exact hI.callQ (by kernel_rfl) hls rfl rfl rfl 42 #[.tmp 20] _ rfl #[.agg (numsA .u8 (k.set 31 (bits .andNot .u8 (k.getD 31 0) 128)))] (by simp [eval_of hvp]) (run_enter Tryd.func42 (by kernel_rfl) (by kernel_rfl)) (.like (IsC 5 RE [ofKey (k.set 31 (bits .andNot .u8 (k.getD 31 0) 128))])) rfl rfl ((ofE (k.set 31 (bits .andNot .u8 (k.getD 31 0) 128)) ((set_length hl _ _)) ((digs_set hd _ _ (andNot8_bnd _ _ (Digs.get (B := 256) (by decide) hd _) (by decide)).1 (andNot8_bnd _ _ (Digs.get (B := 256) (by decide) hd _) (by decide)).2))).mono fun _ _ h => h.sq) hK'
            · obtain rfl := Option.some.inj ho
              exact hI.newQ (by kernel_rfl) hls (Nat.le_refl _) (newsQ_spec (l := [2]) (by kernel_rfl) ⟨⟨_, _, rfl⟩, trivial⟩) rfl rfl rfl 39 zE _ (run_allocQ rfl zE_run wn) rfl zE_ch hK'
            · exact hi.elim
          · intro an w5 hI
            obtain ⟨vr4_0, hvr4_0, hsr4_0⟩ := hI.haveQ 0 _ 20 (.val (.agg (numsA .u8 (k.set 31 (bits .andNot .u8 (k.getD 31 0) 128))))) rfl rfl rfl rfl
            obtain rfl := hsr4_0
            obtain ⟨vr4_1, hvr4_1, ar4_1, rfl, hCr4_1⟩ := hI.haveQ 1 _ 21 (.like (IsC 5 RE [ofKey (k.set 31 (bits .andNot .u8 (k.getD 31 0) 128))])) rfl rfl rfl rfl
            obtain ⟨vr4_2, hvr4_2, br4_2, zr4_2, rfl, hnr4_2, hbr4_2, hzr4_2⟩ := hI.haveQ 2 _ 5 (.blk ptrTo 39 (Ch 5 RE [0])) rfl rfl rfl rfl
            have hupd := hI.upd
            have ha := hI.act [(20, .agg (numsA .u8 (k.set 31 (bits .andNot .u8 (k.getD 31 0) 128)))), (21, .agg ar4_1), (5, ptrTo br4_2)] (by simp [hvr4_0, hvr4_1, hvr4_2]) (by kernel_rfl)
            clear hI hvr4_0 hvr4_1 hvr4_2
            subst ha
            simp only [List.foldl_cons, List.foldl_nil, List.setIfInBounds_toArray, List.set_cons_zero, List.set_cons_succ]
            have hner4_2_Bxr0y0_3 := Lib.hid (show br4_2 ≠ br0_0 from Nat.ne_of_gt (Nat.lt_of_lt_of_le Bxr0y0_3.out.lt hnr4_2))
            have hner4_2_Bxr0y1_3 := Lib.hid (show br4_2 ≠ br0_1 from Nat.ne_of_gt (Nat.lt_of_lt_of_le Bxr0y1_3.out.lt hnr4_2))
            have hger4_2 := Lib.hid (Nat.le_trans HU3.out.size hnr4_2)
            have Bxr0y0_4 := Lib.hid (hupd.blk (show Blk w4 br0_0 23 (numsA .u8 (k.set 31 (bits .andNot .u8 (k.getD 31 0) 128))) from Bxr0y0_3.out) (fun h => h))
            have Bxr0y1_4 := Lib.hid (hupd.blk (show Blk w4 br0_1 41 zr0_1 from Bxr0y1_3.out) (fun h => h))
            have Bxr4y2 := Lib.hid hbr4_2
            have HU4 := Lib.hid (HU3.out.trans hupd)
            clear hupd
            refine wpOps_storeQ 3 rfl rfl rfl 39 (.tmp 5) (.tmp 21) rfl br4_2 0 5 rfl ar4_1 rfl 39 zr4_2 Bxr4y2.out szE hCr4_1.size (by rw [hzr4_2.size]; exact Nat.le_of_ble_eq_true rfl) hCr4_1.one' ?_
            intro ws4_0 hs4_0 hus4_0
            rw [splice_all _ _ 5 hzr4_2.size hCr4_1.size] at hs4_0
            have Bxr0y0_s4_0 := Lib.hid (hus4_0.blk Bxr0y0_4.out (fun e => hner4_2_Bxr0y0_3.out e.symm))
            have Bxr0y1_s4_0 := Lib.hid (hus4_0.blk Bxr0y1_4.out (fun e => hner4_2_Bxr0y1_3.out e.symm))
            have Bxr4y2_s4_0 := Lib.hid hs4_0
            have HU4_0 := Lib.hid (HU4.out.step hus4_0 (fun i hi h => absurd hi (Nat.not_lt.2 (h.symm ▸ hger4_2.out))))
            clear hs4_0 hus4_0
            refine wpOps_nil ?_
            refine hK5 _ _ ?_
            clear hK5
            refine wp_seq_k fun K6 hK6 => ?_
            refine wp_region_qS 6 #[true, true, true, true, true, true, false, false] [6, 7] ([.val (.agg ar4_1), .like (IsCV 5 RE [xOf (ofKey (k.set 31 (bits .andNot .u8 (k.getD 31 0) 128)))] (.bool true)), .like (IsCV 5 RE [xOf (ofKey (k.set 31 (bits .andNot .u8 (k.getD 31 0) 128)))] (.bool true)), .like (IsC 5 RE [xOf (ofKey (k.set 31 (bits .andNot .u8 (k.getD 31 0) 128)))]), .val (.bool true), .blk ptrTo 39 (Ch 5 RE [0]), .val undef, .val undef] : List SQ) (by kernel_rfl) (by kernel_rfl) (by kernel_rfl) ?_ ?_
            · intro i o listed an wn ho hls hst hun hdep hI hpre K' hK'
              have hi : i = 0 ∨ i = 1 ∨ i = 2 ∨ i = 3 ∨ i = 4 ∨ i = 5 ∨ False := slot_cases (l := [0, 1, 2, 3, 4, 5]) rfl ho hst
              rcases hi with rfl | rfl | rfl | rfl | rfl | rfl | hi
              · obtain rfl := Option.some.inj ho
                have hvp : an.eval (.tmp 5) = ptrTo br4_2 := hI.oldQ (by kernel_rfl) rfl
                exact hI.pureQ (by kernel_rfl) hls rfl rfl rfl _ (run_loadQ rfl hvp wn (hI.upd.blk (show Blk ws4_0 br4_2 39 ar4_1 from Bxr4y2_s4_0.out) (fun h => h)) Tryd.underlying39 rfl szE (by rw [hCr4_1.size]; exact Nat.le_of_ble_eq_true rfl)) (.val (.agg ar4_1)) rfl (congrArg Value.agg (extract_all _ 5 hCr4_1.size)) rfl hK'
              · obtain rfl := Option.some.inj ho
                obtain ⟨vp, hvp, hsp⟩ := hI.haveQ 0 _ 23 (.val (.agg ar4_1)) rfl rfl rfl (hdep ⟨0, .data⟩ (by simp) rfl)
                obtain rfl := hsp
                exact hI.callQ (by kernel_rfl) hls rfl rfl rfl 61 #[.tmp 23] _ rfl #[.agg ar4_1] (by simp [eval_of hvp]) (run_enter Tryd.func61 (by kernel_rfl) (by kernel_rfl)) (.like (IsCV 5 RE [xOf (ofKey (k.set 31 (bits .andNot .u8 (k.getD 31 0) 128)))] (.bool true))) rfl rfl ((evenXP _ (HT.out.upd (HU4_0.out.trans hI.upd)) hCr4_1 (den_y _)).mono fun _ _ h => (RetCV.bool h hr).sq) hK'
              · obtain rfl := Option.some.inj ho
                obtain ⟨vp, hvp, ap, rfl, hCp⟩ := hI.haveQ 1 _ 24 (.like (IsCV 5 RE [xOf (ofKey (k.set 31 (bits .andNot .u8 (k.getD 31 0) 128)))] (.bool true))) rfl rfl rfl (hdep ⟨1, .data⟩ (by simp) rfl)
                exact hI.pureQ (by kernel_rfl) hls rfl rfl rfl _ (run_moveQ (.inl rfl) (eval_of hvp) wn) (.like (IsCV 5 RE [xOf (ofKey (k.set 31 (bits .andNot .u8 (k.getD 31 0) 128)))] (.bool true))) rfl ⟨_, rfl, hCp⟩ rfl hK'
              · obtain rfl := Option.some.inj ho
                obtain ⟨vp, hvp, ap, rfl, hCp⟩ := hI.haveQ 2 _ 22 (.like (IsCV 5 RE [xOf (ofKey (k.set 31 (bits .andNot .u8 (k.getD 31 0) 128)))] (.bool true))) rfl rfl rfl (hdep ⟨2, .data⟩ (by simp) rfl)
                exact hI.pureQ (by kernel_rfl) hls rfl rfl rfl _ (run_extractQ rfl (eval_of hvp) rfl wn) (.like (IsC 5 RE [xOf (ofKey (k.set 31 (bits .andNot .u8 (k.getD 31 0) 128)))])) rfl ⟨_, rfl, hCp⟩ rfl hK'
              · obtain rfl := Option.some.inj ho
                obtain ⟨vp, hvp, ap, rfl, hCp⟩ := hI.haveQ 2 _ 22 (.like (IsCV 5 RE [xOf (ofKey (k.set 31 (bits .andNot .u8 (k.getD 31 0) 128)))] (.bool true))) rfl rfl rfl (hdep ⟨2, .data⟩ (by simp) rfl)
                exact hI.pureQ (by kernel_rfl) hls rfl rfl rfl (.bool true) (run_extractQ rfl (eval_of hvp) rfl wn) (.val (.bool true)) rfl rfl rfl hK'
              · obtain rfl := Option.some.inj ho
                exact hI.newQ (by kernel_rfl) hls (Nat.le_refl _) (newsQ_spec (l := [5]) (by kernel_rfl) ⟨⟨_, _, rfl⟩, trivial⟩) rfl rfl rfl 39 zE _ (run_allocQ rfl zE_run wn) rfl zE_ch hK'
              · exact hi.elim
            · intro an w6 hI
              obtain ⟨vr5_0, hvr5_0, hsr5_0⟩ := hI.haveQ 0 _ 23 (.val (.agg ar4_1)) rfl rfl rfl rfl
              obtain rfl := hsr5_0
              obtain ⟨vr5_1, hvr5_1, ar5_1, rfl, hCr5_1⟩ := hI.haveQ 1 _ 24 (.like (IsCV 5 RE [xOf (ofKey (k.set 31 (bits .andNot .u8 (k.getD 31 0) 128)))] (.bool true))) rfl rfl rfl rfl
              obtain ⟨vr5_2, hvr5_2, ar5_2, rfl, hCr5_2⟩ := hI.haveQ 2 _ 22 (.like (IsCV 5 RE [xOf (ofKey (k.set 31 (bits .andNot .u8 (k.getD 31 0) 128)))] (.bool true))) rfl rfl rfl rfl
              obtain ⟨vr5_3, hvr5_3, ar5_3, rfl, hCr5_3⟩ := hI.haveQ 3 _ 25 (.like (IsC 5 RE [xOf (ofKey (k.set 31 (bits .andNot .u8 (k.getD 31 0) 128)))])) rfl rfl rfl rfl
              obtain ⟨vr5_4, hvr5_4, hsr5_4⟩ := hI.haveQ 4 _ 26 (.val (.bool true)) rfl rfl rfl rfl
              obtain rfl := hsr5_4
              obtain ⟨vr5_5, hvr5_5, br5_5, zr5_5, rfl, hnr5_5, hbr5_5, hzr5_5⟩ := hI.haveQ 5 _ 6 (.blk ptrTo 39 (Ch 5 RE [0])) rfl rfl rfl rfl
              have hupd := hI.upd
              have ha := hI.act [(23, .agg ar4_1), (24, .tuple #[.agg ar5_1, .bool true]), (22, .tuple #[.agg ar5_2, .bool true]), (25, .agg ar5_3), (26, .bool true), (6, ptrTo br5_5)] (by simp [hvr5_0, hvr5_1, hvr5_2, hvr5_3, hvr5_4, hvr5_5]) (by kernel_rfl)
              clear hI hvr5_0 hvr5_1 hvr5_2 hvr5_3 hvr5_4 hvr5_5
              subst ha
              simp only [List.foldl_cons, List.foldl_nil, List.setIfInBounds_toArray, List.set_cons_zero, List.set_cons_succ]
              have hner5_5_Bxr0y0_s4_0 := Lib.hid (show br5_5 ≠ br0_0 from Nat.ne_of_gt (Nat.lt_of_lt_of_le Bxr0y0_s4_0.out.lt hnr5_5))
              have hner5_5_Bxr0y1_s4_0 := Lib.hid (show br5_5 ≠ br0_1 from Nat.ne_of_gt (Nat.lt_of_lt_of_le Bxr0y1_s4_0.out.lt hnr5_5))
              have hner5_5_Bxr4y2_s4_0 := Lib.hid (show br5_5 ≠ br4_2 from Nat.ne_of_gt (Nat.lt_of_lt_of_le Bxr4y2_s4_0.out.lt hnr5_5))
              have hger5_5 := Lib.hid (Nat.le_trans HU4_0.out.size hnr5_5)
              have Bxr0y0_5 := Lib.hid (hupd.blk (show Blk ws4_0 br0_0 23 (numsA .u8 (k.set 31 (bits .andNot .u8 (k.getD 31 0) 128))) from Bxr0y0_s4_0.out) (fun h => h))
              have Bxr0y1_5 := Lib.hid (hupd.blk (show Blk ws4_0 br0_1 41 zr0_1 from Bxr0y1_s4_0.out) (fun h => h))
              have Bxr4y2_5 := Lib.hid (hupd.blk (show Blk ws4_0 br4_2 39 ar4_1 from Bxr4y2_s4_0.out) (fun h => h))
              have Bxr5y5 := Lib.hid hbr5_5
              have HU5 := Lib.hid (HU4_0.out.trans hupd)
              clear hupd
              refine wpOps_storeQ 6 rfl rfl rfl 39 (.tmp 6) (.tmp 25) rfl br5_5 0 5 rfl ar5_3 rfl 39 zr5_5 Bxr5y5.out szE hCr5_3.size (by rw [hzr5_5.size]; exact Nat.le_of_ble_eq_true rfl) hCr5_3.one' ?_
              intro ws5_0 hs5_0 hus5_0
              rw [splice_all _ _ 5 hzr5_5.size hCr5_3.size] at hs5_0
              have Bxr0y0_s5_0 := Lib.hid (hus5_0.blk Bxr0y0_5.out (fun e => hner5_5_Bxr0y0_s4_0.out e.symm))
              have Bxr0y1_s5_0 := Lib.hid (hus5_0.blk Bxr0y1_5.out (fun e => hner5_5_Bxr0y1_s4_0.out e.symm))
              have Bxr4y2_s5_0 := Lib.hid (hus5_0.blk Bxr4y2_5.out (fun e => hner5_5_Bxr4y2_s4_0.out e.symm))
              have Bxr5y5_s5_0 := Lib.hid hs5_0
              have HU5_0 := Lib.hid (HU5.out.step hus5_0 (fun i hi h => absurd hi (Nat.not_lt.2 (h.symm ▸ hger5_5.out))))
              clear hs5_0 hus5_0
              refine wpOps_pureQ 7 rfl rfl 7 rfl (.bool true) (run_moveQ (x := .tmp 26) (v := .bool true) (.inr rfl) rfl _) ?_
              simp only [List.setIfInBounds_toArray, List.set_cons_zero, List.set_cons_succ]
              refine wpOps_nil ?_
              refine hK6 _ _ ?_
              clear hK6
              refine wp_seq_k fun K7 hK7 => ?_
              refine wp_seq_k fun K8 hK8 => ?_
              refine wp_region_qS 9 #[true, true, true, true, true, true, true, true, true] [] ([.val (.bool true), .val (.bool false), .val (.bool false), .val (.bool true), .val (.bool true), .val (.agg ar5_3), .val (.bool false), .val (.bool false), .val (.bool false)] : List SQ) (by kernel_rfl) (by kernel_rfl) (by kernel_rfl) ?_ ?_
              · intro i o listed an wn ho hls hst hun hdep hI hpre K' hK'
                have hi : i = 0 ∨ i = 1 ∨ i = 2 ∨ i = 3 ∨ i = 4 ∨ i = 5 ∨ i = 6 ∨ i = 7 ∨ i = 8 ∨ False := slot_cases (l := [0, 1, 2, 3, 4, 5, 6, 7, 8]) rfl ho hst
                rcases hi with rfl | rfl | rfl | rfl | rfl | rfl | rfl | rfl | rfl | hi
                · obtain rfl := Option.some.inj ho
                  have hvp : an.eval (.tmp 7) = .bool true := hI.oldQ (by kernel_rfl) rfl
                  exact hI.pureQ (by kernel_rfl) hls rfl rfl rfl (.bool true) (run_moveQ (.inl rfl) hvp wn) (.val (.bool true)) rfl rfl rfl hK'
                · obtain rfl := Option.some.inj ho
                  obtain ⟨vp, hvp, hsp⟩ := hI.haveQ 0 _ 27 (.val (.bool true)) rfl rfl rfl (hdep ⟨0, .data⟩ (by simp) rfl)
                  obtain rfl := hsp
                  exact hI.pureQ (by kernel_rfl) hls rfl rfl rfl (.bool false) (run_not rfl (eval_of hvp) wn) (.val (.bool false)) rfl rfl rfl hK'
                · obtain rfl := Option.some.inj ho
                  obtain ⟨vp, hvp, hsp⟩ := hI.haveQ 1 _ 28 (.val (.bool false)) rfl rfl rfl (hdep ⟨1, .data⟩ (by simp) rfl)
                  obtain rfl := hsp
                  exact hI.pureQ (by kernel_rfl) hls rfl rfl rfl (.bool false) (run_moveQ (.inl rfl) (eval_of hvp) wn) (.val (.bool false)) rfl rfl rfl hK'
                · obtain rfl := Option.some.inj ho
                  obtain ⟨vg, hvg, hsg⟩ := hI.haveQ 2 _ 29 (.val (.bool false)) rfl rfl rfl (hdep ⟨2, .guard⟩ (by simp) rfl)
                  obtain rfl := hsg
                  have hvp : an.eval (.tmp 4) = .bool true := hI.oldQ (by kernel_rfl) rfl
                  exact hI.pureQ (by kernel_rfl) hls rfl (wanted_of rfl rfl rfl hvg) rfl (.bool true) (run_moveQ (.inl rfl) hvp wn) (.val (.bool true)) rfl rfl rfl hK'
                · obtain rfl := Option.some.inj ho
                  obtain ⟨vg, hvg, hsg⟩ := hI.haveQ 2 _ 29 (.val (.bool false)) rfl rfl rfl (hdep ⟨2, .guard⟩ (by simp) rfl)
                  obtain rfl := hsg
                  obtain ⟨vp, hvp, hsp⟩ := hI.haveQ 3 _ 30 (.val (.bool true)) rfl rfl rfl (hdep ⟨3, .data⟩ (by simp) rfl)
                  obtain rfl := hsp
                  exact hI.pureQ (by kernel_rfl) hls rfl (wanted_of rfl rfl rfl hvg) rfl (.bool true) (run_moveQ (.inl rfl) (eval_of hvp) wn) (.val (.bool true)) rfl rfl rfl hK'
                · obtain rfl := Option.some.inj ho
                  obtain ⟨vg, hvg, hsg⟩ := hI.haveQ 4 _ 31 (.val (.bool true)) rfl rfl rfl (hdep ⟨4, .guard⟩ (by simp) rfl)
                  obtain rfl := hsg
                  have hvp : an.eval (.tmp 6) = ptrTo br5_5 := hI.oldQ (by kernel_rfl) rfl
                  exact hI.pureQ (by kernel_rfl) hls rfl (wanted_of rfl rfl rfl hvg) rfl _ (run_loadQ rfl hvp wn (hI.upd.blk (show Blk ws5_0 br5_5 39 ar5_3 from Bxr5y5_s5_0.out) (fun h => h)) Tryd.underlying39 rfl szE (by rw [hCr5_3.size]; exact Nat.le_of_ble_eq_true rfl)) (.val (.agg ar5_3)) rfl (congrArg Value.agg (extract_all _ 5 hCr5_3.size)) rfl hK'
                · obtain rfl := Option.some.inj ho
                  obtain ⟨vg, hvg, hsg⟩ := hI.haveQ 4 _ 31 (.val (.bool true)) rfl rfl rfl (hdep ⟨4, .guard⟩ (by simp) rfl)
                  obtain rfl := hsg
                  obtain ⟨vp, hvp, hsp⟩ := hI.haveQ 5 _ 32 (.val (.agg ar5_3)) rfl rfl rfl (hdep ⟨5, .data⟩ (by simp) rfl)
                  obtain rfl := hsp
                  exact hI.callQ (by kernel_rfl) hls rfl (wanted_of rfl rfl rfl hvg) rfl 62 #[.tmp 32] _ rfl #[.agg ar5_3] (by simp [eval_of hvp]) (run_enter Tryd.func62 (by kernel_rfl) (by kernel_rfl)) (.val (.bool false)) rfl rfl ((isZeroE hCr5_3).mono fun _ _ h => ret_val (ret_b h hx)) hK'
                · obtain rfl := Option.some.inj ho
                  obtain ⟨vg, hvg, hsg⟩ := hI.haveQ 2 _ 29 (.val (.bool false)) rfl rfl rfl (hdep ⟨2, .guard⟩ (by simp) rfl)
                  obtain rfl := hsg
                  obtain ⟨vp, hvp, hsp⟩ := hI.haveQ 4 _ 31 (.val (.bool true)) rfl rfl rfl (hdep ⟨4, .data⟩ (by simp) rfl)
                  obtain rfl := hsp
                  obtain ⟨vq, hvq, hsq⟩ := hI.haveQ 6 _ 33 (.val (.bool false)) rfl rfl rfl (hdep ⟨6, .data⟩ (by simp) rfl)
                  obtain rfl := hsq
                  exact hI.pureQ (by kernel_rfl) hls rfl (wanted_of rfl rfl rfl hvg) rfl (.bool false) (run_pickT rfl (eval_of hvp) (eval_of hvq) wn) (.val (.bool false)) rfl rfl rfl hK'
                · obtain rfl := Option.some.inj ho
                  obtain ⟨vp, hvp, hsp⟩ := hI.haveQ 2 _ 29 (.val (.bool false)) rfl rfl rfl (hdep ⟨2, .data⟩ (by simp) rfl)
                  obtain rfl := hsp
                  obtain ⟨vq, hvq, hsq⟩ := hI.haveQ 7 _ 34 (.val (.bool false)) rfl rfl rfl (hdep ⟨7, .data⟩ (by simp) rfl)
                  obtain rfl := hsq
                  exact hI.pureQ (by kernel_rfl) hls rfl rfl rfl (.bool false) (run_pickF rfl (eval_of hvp) (eval_of hvq) wn) (.val (.bool false)) rfl rfl rfl hK'
                · exact hi.elim
              · intro an w7 hI
                obtain ⟨vr6_0, hvr6_0, hsr6_0⟩ := hI.haveQ 0 _ 27 (.val (.bool true)) rfl rfl rfl rfl
                obtain rfl := hsr6_0
                obtain ⟨vr6_1, hvr6_1, hsr6_1⟩ := hI.haveQ 1 _ 28 (.val (.bool false)) rfl rfl rfl rfl
                obtain rfl := hsr6_1
                obtain ⟨vr6_2, hvr6_2, hsr6_2⟩ := hI.haveQ 2 _ 29 (.val (.bool false)) rfl rfl rfl rfl
                obtain rfl := hsr6_2
                obtain ⟨vr6_3, hvr6_3, hsr6_3⟩ := hI.haveQ 3 _ 30 (.val (.bool true)) rfl rfl rfl rfl
                obtain rfl := hsr6_3
                obtain ⟨vr6_4, hvr6_4, hsr6_4⟩ := hI.haveQ 4 _ 31 (.val (.bool true)) rfl rfl rfl rfl
                obtain rfl := hsr6_4
                obtain ⟨vr6_5, hvr6_5, hsr6_5⟩ := hI.haveQ 5 _ 32 (.val (.agg ar5_3)) rfl rfl rfl rfl
                obtain rfl := hsr6_5
                obtain ⟨vr6_6, hvr6_6, hsr6_6⟩ := hI.haveQ 6 _ 33 (.val (.bool false)) rfl rfl rfl rfl
                obtain rfl := hsr6_6
                obtain ⟨vr6_7, hvr6_7, hsr6_7⟩ := hI.haveQ 7 _ 34 (.val (.bool false)) rfl rfl rfl rfl
                obtain rfl := hsr6_7
                obtain ⟨vr6_8, hvr6_8, hsr6_8⟩ := hI.haveQ 8 _ 35 (.val (.bool false)) rfl rfl rfl rfl
                obtain rfl := hsr6_8
                have hupd := hI.upd
                have ha := hI.act [(27, .bool true), (28, .bool false), (29, .bool false), (30, .bool true), (31, .bool true), (32, .agg ar5_3), (33, .bool false), (34, .bool false), (35, .bool false)] (by simp [hvr6_0, hvr6_1, hvr6_2, hvr6_3, hvr6_4, hvr6_5, hvr6_6, hvr6_7, hvr6_8]) (by kernel_rfl)
                clear hI hvr6_0 hvr6_1 hvr6_2 hvr6_3 hvr6_4 hvr6_5 hvr6_6 hvr6_7 hvr6_8
                subst ha
                simp only [List.foldl_cons, List.foldl_nil, List.setIfInBounds_toArray, List.set_cons_zero, List.set_cons_succ]
                have Bxr0y0_6 := Lib.hid (hupd.blk (show Blk ws5_0 br0_0 23 (numsA .u8 (k.set 31 (bits .andNot .u8 (k.getD 31 0) 128))) from Bxr0y0_s5_0.out) (fun h => h))
                have Bxr0y1_6 := Lib.hid (hupd.blk (show Blk ws5_0 br0_1 41 zr0_1 from Bxr0y1_s5_0.out) (fun h => h))
                have Bxr4y2_6 := Lib.hid (hupd.blk (show Blk ws5_0 br4_2 39 ar4_1 from Bxr4y2_s5_0.out) (fun h => h))
                have Bxr5y5_6 := Lib.hid (hupd.blk (show Blk ws5_0 br5_5 39 ar5_3 from Bxr5y5_s5_0.out) (fun h => h))
                have HU6 := Lib.hid (HU5_0.out.trans hupd)
                clear hupd
                refine wpOps_nil ?_
                refine hK8 _ _ ?_
                clear hK8
                refine wp_cond_false rfl ?_
                refine wp_skip ?_
                refine hK7 _ _ ?_
                clear hK7
                refine wp_seq_k fun K9 hK9 => ?_
                refine wp_seq_k fun K10 hK10 => ?_
                refine wp_region_qS 1 #[true] [] ([.val (.bool true)] : List SQ) (by kernel_rfl) (by kernel_rfl) (by kernel_rfl) ?_ ?_
                · intro i o listed an wn ho hls hst hun hdep hI hpre K' hK'
                  have hi : i = 0 ∨ False := slot_cases (l := [0]) rfl ho hst
                  rcases hi with rfl | hi
                  · obtain rfl := Option.some.inj ho
                    have hvp : an.eval (.tmp 4) = .bool true := hI.oldQ (by kernel_rfl) rfl
                    exact hI.pureQ (by kernel_rfl) hls rfl rfl rfl (.bool true) (run_moveQ (.inl rfl) hvp wn) (.val (.bool true)) rfl rfl rfl hK'
                  · exact hi.elim
                · intro an w8 hI
                  obtain ⟨vr7_0, hvr7_0, hsr7_0⟩ := hI.haveQ 0 _ 37 (.val (.bool true)) rfl rfl rfl rfl
                  obtain rfl := hsr7_0
                  have hupd := hI.upd
                  have ha := hI.act [(37, .bool true)] (by simp [hvr7_0]) (by kernel_rfl)
                  clear hI hvr7_0
                  subst ha
                  simp only [List.foldl_cons, List.foldl_nil, List.setIfInBounds_toArray, List.set_cons_zero, List.set_cons_succ]
                  have Bxr0y0_7 := Lib.hid (hupd.blk (show Blk w7 br0_0 23 (numsA .u8 (k.set 31 (bits .andNot .u8 (k.getD 31 0) 128))) from Bxr0y0_6.out) (fun h => h))
                  have Bxr0y1_7 := Lib.hid (hupd.blk (show Blk w7 br0_1 41 zr0_1 from Bxr0y1_6.out) (fun h => h))
                  have Bxr4y2_7 := Lib.hid (hupd.blk (show Blk w7 br4_2 39 ar4_1 from Bxr4y2_6.out) (fun h => h))
                  have Bxr5y5_7 := Lib.hid (hupd.blk (show Blk w7 br5_5 39 ar5_3 from Bxr5y5_6.out) (fun h => h))
                  have HU7 := Lib.hid (HU6.out.trans hupd)
                  clear hupd
                  refine wpOps_nil ?_
                  refine hK10 _ _ ?_
                  clear hK10
                  refine wp_cond_true rfl ?_
                  refine wp_region_qS 2 #[true, true, false] [2] ([.val (.agg ar5_3), .like (IsC 5 RE [-(xOf (ofKey (k.set 31 (bits .andNot .u8 (k.getD 31 0) 128))))]), .val undef] : List SQ) (by kernel_rfl) (by kernel_rfl) (by kernel_rfl) ?_ ?_
                  · intro i o listed an wn ho hls hst hun hdep hI hpre K' hK'
                    have hi : i = 0 ∨ i = 1 ∨ False := slot_cases (l := [0, 1]) rfl ho hst
                    rcases hi with rfl | rfl | hi
                    · obtain rfl := Option.some.inj ho
                      have hvp : an.eval (.tmp 6) = ptrTo br5_5 := hI.oldQ (by kernel_rfl) rfl
                      exact hI.pureQ (by kernel_rfl) hls rfl rfl rfl _ (run_loadQ rfl hvp wn (hI.upd.blk (show Blk w8 br5_5 39 ar5_3 from Bxr5y5_7.out) (fun h => h)) Tryd.underlying39 rfl szE (by rw [hCr5_3.size]; exact Nat.le_of_ble_eq_true rfl)) (.val (.agg ar5_3)) rfl (congrArg Value.agg (extract_all _ 5 hCr5_3.size)) rfl hK'
                    · obtain rfl := Option.some.inj ho
                      obtain ⟨vp, hvp, hsp⟩ := hI.haveQ 0 _ 38 (.val (.agg ar5_3)) rfl rfl rfl (hdep ⟨0, .data⟩ (by simp) rfl)
                      obtain rfl := hsp
                      exact hI.callQ (by kernel_rfl) hls rfl rfl rfl 63 #[.tmp 38] _ rfl #[.agg ar5_3] (by simp [eval_of hvp]) (run_enter Tryd.func63 (by kernel_rfl) (by kernel_rfl)) (.like (IsC 5 RE [-(xOf (ofKey (k.set 31 (bits .andNot .u8 (k.getD 31 0) 128))))])) rfl rfl ((negE (HT.out.upd (HU7.out.trans hI.upd)) hCr5_3).mono fun _ _ h => h.sq) hK'
                    · exact hi.elim
                  · intro an w9 hI
                    obtain ⟨vr8_0, hvr8_0, hsr8_0⟩ := hI.haveQ 0 _ 38 (.val (.agg ar5_3)) rfl rfl rfl rfl
                    obtain rfl := hsr8_0
                    obtain ⟨vr8_1, hvr8_1, ar8_1, rfl, hCr8_1⟩ := hI.haveQ 1 _ 39 (.like (IsC 5 RE [-(xOf (ofKey (k.set 31 (bits .andNot .u8 (k.getD 31 0) 128))))])) rfl rfl rfl rfl
                    have hupd := hI.upd
                    have ha := hI.act [(38, .agg ar5_3), (39, .agg ar8_1)] (by simp [hvr8_0, hvr8_1]) (by kernel_rfl)
                    clear hI hvr8_0 hvr8_1
                    subst ha
                    simp only [List.foldl_cons, List.foldl_nil, List.setIfInBounds_toArray, List.set_cons_zero, List.set_cons_succ]
                    have Bxr0y0_8 := Lib.hid (hupd.blk (show Blk w8 br0_0 23 (numsA .u8 (k.set 31 (bits .andNot .u8 (k.getD 31 0) 128))) from Bxr0y0_7.out) (fun h => h))
                    have Bxr0y1_8 := Lib.hid (hupd.blk (show Blk w8 br0_1 41 zr0_1 from Bxr0y1_7.out) (fun h => h))
                    have Bxr4y2_8 := Lib.hid (hupd.blk (show Blk w8 br4_2 39 ar4_1 from Bxr4y2_7.out) (fun h => h))
                    have Bxr5y5_8 := Lib.hid (hupd.blk (show Blk w8 br5_5 39 ar5_3 from Bxr5y5_7.out) (fun h => h))
                    have HU8 := Lib.hid (HU7.out.trans hupd)
                    clear hupd
                    refine wpOps_storeQ 2 rfl rfl rfl 39 (.tmp 6) (.tmp 39) rfl br5_5 0 5 rfl ar8_1 rfl 39 ar5_3 Bxr5y5_8.out szE hCr8_1.size (by rw [hCr5_3.size]; exact Nat.le_of_ble_eq_true rfl) hCr8_1.one' ?_
                    intro ws8_0 hs8_0 hus8_0
                    rw [splice_all _ _ 5 hCr5_3.size hCr8_1.size] at hs8_0
                    have Bxr0y0_s8_0 := Lib.hid (hus8_0.blk Bxr0y0_8.out (fun e => hner5_5_Bxr0y0_s4_0.out e.symm))
                    have Bxr0y1_s8_0 := Lib.hid (hus8_0.blk Bxr0y1_8.out (fun e => hner5_5_Bxr0y1_s4_0.out e.symm))
                    have Bxr4y2_s8_0 := Lib.hid (hus8_0.blk Bxr4y2_8.out (fun e => hner5_5_Bxr4y2_s4_0.out e.symm))
                    have Bxr5y5_s8_0 := Lib.hid hs8_0
                    have HU8_0 := Lib.hid (HU8.out.step hus8_0 (fun i hi h => absurd hi (Nat.not_lt.2 (h.symm ▸ hger5_5.out))))
                    clear hs8_0 hus8_0
                    refine wpOps_nil ?_
                    refine hK9 _ _ ?_
                    clear hK9
                    refine wp_seq_k fun K11 hK11 => ?_
                    refine wp_region_qS 3 #[true, true, true, false, false] [3, 4] ([.val (.agg ar8_1), .val (.agg ar4_1), .like (IsC 5 RE [-(xOf (ofKey (k.set 31 (bits .andNot .u8 (k.getD 31 0) 128)))), ofKey (k.set 31 (bits .andNot .u8 (k.getD 31 0) 128)), fv 1, (-(xOf (ofKey (k.set 31 (bits .andNot .u8 (k.getD 31 0) 128))))) * (ofKey (k.set 31 (bits .andNot .u8 (k.getD 31 0) 128)))]), .val undef, .val undef] : List SQ) (by kernel_rfl) (by kernel_rfl) (by kernel_rfl) ?_ ?_
                    · intro i o listed an wn ho hls hst hun hdep hI hpre K' hK'
                      have hi : i = 0 ∨ i = 1 ∨ i = 2 ∨ False := slot_cases (l := [0, 1, 2]) rfl ho hst
                      rcases hi with rfl | rfl | rfl | hi
                      · obtain rfl := Option.some.inj ho
                        have hvp : an.eval (.tmp 6) = ptrTo br5_5 := hI.oldQ (by kernel_rfl) rfl
                        exact hI.pureQ (by kernel_rfl) hls rfl rfl rfl _ (run_loadQ rfl hvp wn (hI.upd.blk (show Blk ws8_0 br5_5 39 ar8_1 from Bxr5y5_s8_0.out) (fun h => h)) Tryd.underlying39 rfl szE (by rw [hCr8_1.size]; exact Nat.le_of_ble_eq_true rfl)) (.val (.agg ar8_1)) rfl (congrArg Value.agg (extract_all _ 5 hCr8_1.size)) rfl hK'
                      · obtain rfl := Option.some.inj ho
                        have hvp : an.eval (.tmp 5) = ptrTo br4_2 := hI.oldQ (by kernel_rfl) rfl
                        exact hI.pureQ (by kernel_rfl) hls rfl rfl rfl _ (run_loadQ rfl hvp wn (hI.upd.blk (show Blk ws8_0 br4_2 39 ar4_1 from Bxr4y2_s8_0.out) (fun h => h)) Tryd.underlying39 rfl szE (by rw [hCr4_1.size]; exact Nat.le_of_ble_eq_true rfl)) (.val (.agg ar4_1)) rfl (congrArg Value.agg (extract_all _ 5 hCr4_1.size)) rfl hK'
                      · obtain rfl := Option.some.inj ho
                        obtain ⟨vp, hvp, hsp⟩ := hI.haveQ 0 _ 40 (.val (.agg ar8_1)) rfl rfl rfl (hdep ⟨0, .data⟩ (by simp) rfl)
                        obtain rfl := hsp
                        obtain ⟨vq, hvq, hsq⟩ := hI.haveQ 1 _ 41 (.val (.agg ar4_1)) rfl rfl rfl (hdep ⟨1, .data⟩ (by simp) rfl)
                        obtain rfl := hsq
                        exact hI.callQ (by kernel_rfl) hls rfl rfl rfl 64 #[.tmp 40, .tmp 41] _ rfl #[.agg ar8_1, .agg ar4_1] (by simp [eval_of hvp, eval_of hvq]) (run_enter Tryd.func64 (by kernel_rfl) (by kernel_rfl)) (.like (IsC 5 RE [-(xOf (ofKey (k.set 31 (bits .andNot .u8 (k.getD 31 0) 128)))), ofKey (k.set 31 (bits .andNot .u8 (k.getD 31 0) 128)), fv 1, (-(xOf (ofKey (k.set 31 (bits .andNot .u8 (k.getD 31 0) 128))))) * (ofKey (k.set 31 (bits .andNot .u8 (k.getD 31 0) 128)))])) rfl rfl ((ofP _ hCr8_1 hCr4_1).mono fun _ _ h => h.sq) hK'
                      · exact hi.elim
                    · intro an w10 hI
                      obtain ⟨vr9_0, hvr9_0, hsr9_0⟩ := hI.haveQ 0 _ 40 (.val (.agg ar8_1)) rfl rfl rfl rfl
                      obtain rfl := hsr9_0
                      obtain ⟨vr9_1, hvr9_1, hsr9_1⟩ := hI.haveQ 1 _ 41 (.val (.agg ar4_1)) rfl rfl rfl rfl
                      obtain rfl := hsr9_1
                      obtain ⟨vr9_2, hvr9_2, ar9_2, rfl, hCr9_2⟩ := hI.haveQ 2 _ 42 (.like (IsC 5 RE [-(xOf (ofKey (k.set 31 (bits .andNot .u8 (k.getD 31 0) 128)))), ofKey (k.set 31 (bits .andNot .u8 (k.getD 31 0) 128)), fv 1, (-(xOf (ofKey (k.set 31 (bits .andNot .u8 (k.getD 31 0) 128))))) * (ofKey (k.set 31 (bits .andNot .u8 (k.getD 31 0) 128)))])) rfl rfl rfl rfl
                      have hupd := hI.upd
                      have ha := hI.act [(40, .agg ar8_1), (41, .agg ar4_1), (42, .agg ar9_2)] (by simp [hvr9_0, hvr9_1, hvr9_2]) (by kernel_rfl)
                      clear hI hvr9_0 hvr9_1 hvr9_2
                      subst ha
                      simp only [List.foldl_cons, List.foldl_nil, List.setIfInBounds_toArray, List.set_cons_zero, List.set_cons_succ]
                      have Bxr0y0_9 := Lib.hid (hupd.blk (show Blk ws8_0 br0_0 23 (numsA .u8 (k.set 31 (bits .andNot .u8 (k.getD 31 0) 128))) from Bxr0y0_s8_0.out) (fun h => h))
                      have Bxr0y1_9 := Lib.hid (hupd.blk (show Blk ws8_0 br0_1 41 zr0_1 from Bxr0y1_s8_0.out) (fun h => h))
                      have Bxr4y2_9 := Lib.hid (hupd.blk (show Blk ws8_0 br4_2 39 ar4_1 from Bxr4y2_s8_0.out) (fun h => h))
                      have Bxr5y5_9 := Lib.hid (hupd.blk (show Blk ws8_0 br5_5 39 ar8_1 from Bxr5y5_s8_0.out) (fun h => h))
                      have HU9 := Lib.hid (HU8_0.out.trans hupd)
                      clear hupd
                      refine wpOps_storeQ 3 rfl rfl rfl 41 (.tmp 2) (.tmp 42) rfl br0_1 0 20 rfl ar9_2 rfl 41 zr0_1 Bxr0y1_9.out szPt hCr9_2.size (by rw [hzr0_1.size]; exact Nat.le_of_ble_eq_true rfl) hCr9_2.one' ?_
                      intro ws9_0 hs9_0 hus9_0
                      rw [splice_all _ _ 20 hzr0_1.size hCr9_2.size] at hs9_0
                      have Bxr0y0_s9_0 := Lib.hid (hus9_0.blk Bxr0y0_9.out (fun e => hner0_0_r0_1.out e))
                      have Bxr4y2_s9_0 := Lib.hid (hus9_0.blk Bxr4y2_9.out (fun e => hner4_2_Bxr0y1_3.out e))
                      have Bxr5y5_s9_0 := Lib.hid (hus9_0.blk Bxr5y5_9.out (fun e => hner5_5_Bxr0y1_s4_0.out e))
                      have Bxr0y1_s9_0 := Lib.hid hs9_0
                      have HU9_0 := Lib.hid (HU9.out.step hus9_0 (fun i hi h => absurd hi (Nat.not_lt.2 (h.symm ▸ hger0_1.out))))
                      clear hs9_0 hus9_0
                      refine wpOps_pureQ 4 rfl rfl 3 rfl (.int .i64 0) (run_moveQ (x := .const (.int .i64 0)) (v := .int .i64 0) (.inr rfl) rfl _) ?_
                      simp only [List.setIfInBounds_toArray, List.set_cons_zero, List.set_cons_succ]
                      refine wpOps_nil ?_
                      refine hK11 _ _ ?_
                      clear hK11
                      refine wp_ret ?_
                      try dsimp only [Exit.then]
                      try dsimp only [Exit.inBlock]
                      exact bodyPost_ret (v := .tuple #[.agg ar9_2, .int .i64 0]) (results_cell_tmpQ (fn := Tryd.f24) (p := 2) (q := 3) (ty := 41) rfl _ _ br0_1 ar9_2 (.int .i64 0) rfl rfl Bxr0y1_s9_0.out Tryd.underlying41 rfl (by rw [hCr9_2.size]; exact szPt)) rfl ⟨_, rfl, hCr9_2, HU9_0.out⟩
set_option maxHeartbeats 4000000 in
theorem decodeE {k : List Int} (w : World) (hT : Tw w) (hl : k.length = 32) (hd : Digs 256 k) (hc : canonB (k.set 31 (bits .andNot .u8 (k.getD 31 0) 128)) = true) (hr : isY (ofKey (k.set 31 (bits .andNot .u8 (k.getD 31 0) 128))) = true) (hodd : decide ((bits .and .u8 (k.getD 31 0) 128) = 0) = true) :
    Calls Tryd.prog 24 #[.agg (numsA .u8 k)] w (RetCV 5 RE [xOf (ofKey (k.set 31 (bits .andNot .u8 (k.getD 31 0) 128))), ofKey (k.set 31 (bits .andNot .u8 (k.getD 31 0) 128)), fv 1, (xOf (ofKey (k.set 31 (bits .andNot .u8 (k.getD 31 0) 128)))) * (ofKey (k.set 31 (bits .andNot .u8 (k.getD 31 0) 128)))] (.int .i64 0) w) := by
  have HT := Lib.hid hT
  clear hT
  have HU := Lib.hid (Upd.refl (fun _ => False) w)
  go_enter Tryd.func24, Tryd.ntmps24
  refine wp_seq_k fun K0 hK0 => ?_
  refine wp_region_qS 3 #[true, true, true] [] ([.blk ptrTo 23 (fun z => z = numsA .u8 k), .blk ptrTo 41 (Ch 5 RE [0, 0, 0, 0]), .val (.int .i64 0)] : List SQ) (by kernel_rfl) (by kernel_rfl) (by kernel_rfl) ?_ ?_
  · intro i o listed an wn ho hls hst hun hdep hI hpre K' hK'
    have hi : i = 0 ∨ i = 1 ∨ i = 2 ∨ False := slot_cases (l := [0, 1, 2]) rfl ho hst
    rcases hi with rfl | rfl | rfl | hi
    · obtain rfl := Option.some.inj ho
      have hvp : an.eval (.tmp 0) = .agg (numsA .u8 k) := hI.oldQ (by kernel_rfl) rfl
      exact hI.newQ (by kernel_rfl) hls (Nat.le_refl _) (newsQ_spec (l := [0, 1]) (by kernel_rfl) ⟨⟨_, _, rfl⟩, ⟨_, _, rfl⟩, trivial⟩) rfl rfl rfl 23 _ (fun z => z = numsA .u8 k) (run_boxQ rfl hvp wn) rfl rfl hK'
    · obtain rfl := Option.some.inj ho
      exact hI.newQ (by kernel_rfl) hls (Nat.le_refl _) (newsQ_spec (l := [0, 1]) (by kernel_rfl) ⟨⟨_, _, rfl⟩, ⟨_, _, rfl⟩, trivial⟩) rfl rfl rfl 41 zPt _ (run_allocQ rfl zPt_run wn) rfl zPt_ch hK'
    · obtain rfl := Option.some.inj ho
      exact hI.pureQ (by kernel_rfl) hls rfl rfl rfl (.int .i64 0) (run_moveQ (.inr rfl) (show an.eval (.const (.int .i64 0)) = .int .i64 0 from rfl) wn) (.val (.int .i64 0)) rfl rfl rfl hK'
    · exact hi.elim
  · intro an w1 hI
    obtain ⟨vr0_0, hvr0_0, br0_0, zr0_0, rfl, hnr0_0, hbr0_0, hzr0_0⟩ := hI.haveQ 0 _ 1 (.blk ptrTo 23 (fun z => z = numsA .u8 k)) rfl rfl rfl rfl
    rw [hzr0_0] at hbr0_0
    clear hzr0_0
    obtain ⟨vr0_1, hvr0_1, br0_1, zr0_1, rfl, hnr0_1, hbr0_1, hzr0_1⟩ := hI.haveQ 1 _ 2 (.blk ptrTo 41 (Ch 5 RE [0, 0, 0, 0])) rfl rfl rfl rfl
    obtain ⟨vr0_2, hvr0_2, hsr0_2⟩ := hI.haveQ 2 _ 3 (.val (.int .i64 0)) rfl rfl rfl rfl
    obtain rfl := hsr0_2
    have hupd := hI.upd
    have hner0_0_r0_1 := Lib.hid (show br0_0 ≠ br0_1 from fun e => hI.apart 0 1 _ _ 1 2 (by omega) rfl rfl rfl rfl rfl rfl rfl rfl (by rw [hvr0_0, hvr0_1, e]))
    have ha := hI.act [(1, ptrTo br0_0), (2, ptrTo br0_1), (3, .int .i64 0)] (by simp [hvr0_0, hvr0_1, hvr0_2]) (by kernel_rfl)
    clear hI hvr0_0 hvr0_1 hvr0_2
    subst ha
    simp only [List.foldl_cons, List.foldl_nil, List.setIfInBounds_toArray, List.set_cons_zero, List.set_cons_succ]
    have hger0_0 := Lib.hid (Nat.le_trans HU.out.size hnr0_0)
    have hger0_1 := Lib.hid (Nat.le_trans HU.out.size hnr0_1)
    have Bxr0y0 := Lib.hid hbr0_0
    have Bxr0y1 := Lib.hid hbr0_1
    have HU0 := Lib.hid (HU.out.trans hupd)
    clear hupd
    refine wpOps_nil ?_
    refine hK0 _ _ ?_
    clear hK0
    refine wp_seq_k fun K1 hK1 => ?_
    refine wp_region_qS 5 #[true, true, true, true, true] [] ([.val (.pointer (some ⟨br0_0, 0 + 31, none⟩)), .val (.int .u8 (k.getD 31 0)), .val (.int .u8 (bits .and .u8 (k.getD 31 0) 128)), .val (.bool false), .val (.bool false)] : List SQ) (by kernel_rfl) (by kernel_rfl) (by kernel_rfl) ?_ ?_
    · intro i o listed an wn ho hls hst hun hdep hI hpre K' hK'
      have hi : i = 0 ∨ i = 1 ∨ i = 2 ∨ i = 3 ∨ i = 4 ∨ False := slot_cases (l := [0, 1, 2, 3, 4]) rfl ho hst
      rcases hi with rfl | rfl | rfl | rfl | rfl | hi
      · obtain rfl := Option.some.inj ho
        have hvp : an.eval (.tmp 1) = ptrTo br0_0 := hI.oldQ (by kernel_rfl) rfl
        exact hI.pureQ (by kernel_rfl) hls rfl rfl rfl (.pointer (some ⟨br0_0, 0 + 31, none⟩)) (run_adr (off := 0) (i := 31) rfl Tryd.underlying23 size5 hvp rfl (by omega) wn) (.val (.pointer (some ⟨br0_0, 0 + 31, none⟩))) rfl rfl rfl hK'
      · obtain rfl := Option.some.inj ho
        obtain ⟨vp, hvp, hsp⟩ := hI.haveQ 0 _ 8 (.val (.pointer (some ⟨br0_0, 0 + 31, none⟩))) rfl rfl rfl (hdep ⟨0, .data⟩ (by simp) rfl)
        obtain rfl := hsp
        exact hI.pureQ (by kernel_rfl) hls rfl rfl rfl (.int .u8 (k.getD 31 0)) (run_cellQ rfl Tryd.underlying5 (eval_of hvp) wn (hI.upd.blk (show Blk w1 br0_0 23 (numsA .u8 k) from Bxr0y0.out) (fun h => h)) (by rw [Nat.zero_add]; exact numsA_get _ _ _ (by rw [hl]; omega))) (.val (.int .u8 (k.getD 31 0))) rfl rfl rfl hK'
      · obtain rfl := Option.some.inj ho
        obtain ⟨vp, hvp, hsp⟩ := hI.haveQ 1 _ 9 (.val (.int .u8 (k.getD 31 0))) rfl rfl rfl (hdep ⟨1, .data⟩ (by simp) rfl)
        obtain rfl := hsp
        exact hI.pureQ (by kernel_rfl) hls rfl rfl rfl (.int .u8 (bits .and .u8 (k.getD 31 0) 128)) (run_andB8 rfl (eval_of hvp) rfl wn) (.val (.int .u8 (bits .and .u8 (k.getD 31 0) 128))) rfl rfl rfl hK'
      · obtain rfl := Option.some.inj ho
        obtain ⟨vp, hvp, hsp⟩ := hI.haveQ 2 _ 10 (.val (.int .u8 (bits .and .u8 (k.getD 31 0) 128))) rfl rfl rfl (hdep ⟨2, .data⟩ (by simp) rfl)
        obtain rfl := hsp
        exact hI.pureQ (by kernel_rfl) hls rfl rfl rfl (.bool false) (run_neq rfl (eval_of hvp) rfl (ne_of_eqB hodd) wn) (.val (.bool false)) rfl rfl rfl hK'
      · obtain rfl := Option.some.inj ho
        obtain ⟨vp, hvp, hsp⟩ := hI.haveQ 3 _ 11 (.val (.bool false)) rfl rfl rfl (hdep ⟨3, .data⟩ (by simp) rfl)
        obtain rfl := hsp
        exact hI.pureQ (by kernel_rfl) hls rfl rfl rfl (.bool false) (run_moveQ (.inr rfl) (eval_of hvp) wn) (.val (.bool false)) rfl rfl rfl hK'
      · exact hi.elim
    · intro an w2 hI
      obtain ⟨vr1_0, hvr1_0, hsr1_0⟩ := hI.haveQ 0 _ 8 (.val (.pointer (some ⟨br0_0, 0 + 31, none⟩))) rfl rfl rfl rfl
      obtain rfl := hsr1_0
      obtain ⟨vr1_1, hvr1_1, hsr1_1⟩ := hI.haveQ 1 _ 9 (.val (.int .u8 (k.getD 31 0))) rfl rfl rfl rfl
      obtain rfl := hsr1_1
      obtain ⟨vr1_2, hvr1_2, hsr1_2⟩ := hI.haveQ 2 _ 10 (.val (.int .u8 (bits .and .u8 (k.getD 31 0) 128))) rfl rfl rfl rfl
      obtain rfl := hsr1_2
      obtain ⟨vr1_3, hvr1_3, hsr1_3⟩ := hI.haveQ 3 _ 11 (.val (.bool false)) rfl rfl rfl rfl
      obtain rfl := hsr1_3
      obtain ⟨vr1_4, hvr1_4, hsr1_4⟩ := hI.haveQ 4 _ 4 (.val (.bool false)) rfl rfl rfl rfl
      obtain rfl := hsr1_4
      have hupd := hI.upd
      have ha := hI.act [(8, .pointer (some ⟨br0_0, 0 + 31, none⟩)), (9, .int .u8 (k.getD 31 0)), (10, .int .u8 (bits .and .u8 (k.getD 31 0) 128)), (11, .bool false), (4, .bool false)] (by simp [hvr1_0, hvr1_1, hvr1_2, hvr1_3, hvr1_4]) (by kernel_rfl)
      clear hI hvr1_0 hvr1_1 hvr1_2 hvr1_3 hvr1_4
      subst ha
      simp only [List.foldl_cons, List.foldl_nil, List.setIfInBounds_toArray, List.set_cons_zero, List.set_cons_succ]
      have Bxr0y0_1 := Lib.hid (hupd.blk (show Blk w1 br0_0 23 (numsA .u8 k) from Bxr0y0.out) (fun h => h))
      have Bxr0y1_1 := Lib.hid (hupd.blk (show Blk w1 br0_1 41 zr0_1 from Bxr0y1.out) (fun h => h))
      have HU1 := Lib.hid (HU0.out.trans hupd)
      clear hupd
      refine wpOps_nil ?_
      refine hK1 _ _ ?_
      clear hK1
      refine wp_seq_k fun K2 hK2 => ?_
      refine wp_region_qS 4 #[true, true, true, true, false] [4] ([.val (.pointer (some ⟨br0_0, 0 + 31, none⟩)), .val (.int .u8 (k.getD 31 0)), .val (.int .u8 (bits .andNot .u8 (k.getD 31 0) 128)), .val (.pointer (some ⟨br0_0, 0 + 31, none⟩)), .val undef] : List SQ) (by kernel_rfl) (by kernel_rfl) (by kernel_rfl) ?_ ?_
      · intro i o listed an wn ho hls hst hun hdep hI hpre K' hK'
        have hi : i = 0 ∨ i = 1 ∨ i = 2 ∨ i = 3 ∨ False := slot_cases (l := [0, 1, 2, 3]) rfl ho hst
        rcases hi with rfl | rfl | rfl | rfl | hi
        · obtain rfl := Option.some.inj ho
          have hvp : an.eval (.tmp 1) = ptrTo br0_0 := hI.oldQ (by kernel_rfl) rfl
          exact hI.pureQ (by kernel_rfl) hls rfl rfl rfl (.pointer (some ⟨br0_0, 0 + 31, none⟩)) (run_adr (off := 0) (i := 31) rfl Tryd.underlying23 size5 hvp rfl (by omega) wn) (.val (.pointer (some ⟨br0_0, 0 + 31, none⟩))) rfl rfl rfl hK'
        · obtain rfl := Option.some.inj ho
          obtain ⟨vp, hvp, hsp⟩ := hI.haveQ 0 _ 12 (.val (.pointer (some ⟨br0_0, 0 + 31, none⟩))) rfl rfl rfl (hdep ⟨0, .data⟩ (by simp) rfl)
          obtain rfl := hsp
          exact hI.pureQ (by kernel_rfl) hls rfl rfl rfl (.int .u8 (k.getD 31 0)) (run_cellQ rfl Tryd.underlying5 (eval_of hvp) wn (hI.upd.blk (show Blk w2 br0_0 23 (numsA .u8 k) from Bxr0y0_1.out) (fun h => h)) (by rw [Nat.zero_add]; exact numsA_get _ _ _ (by rw [hl]; omega))) (.val (.int .u8 (k.getD 31 0))) rfl rfl rfl hK'
        · obtain rfl := Option.some.inj ho
          obtain ⟨vp, hvp, hsp⟩ := hI.haveQ 1 _ 13 (.val (.int .u8 (k.getD 31 0))) rfl rfl rfl (hdep ⟨1, .data⟩ (by simp) rfl)
          obtain rfl := hsp
          exact hI.pureQ (by kernel_rfl) hls rfl rfl rfl (.int .u8 (bits .andNot .u8 (k.getD 31 0) 128)) (run_andNot8 rfl (eval_of hvp) rfl wn) (.val (.int .u8 (bits .andNot .u8 (k.getD 31 0) 128))) rfl rfl rfl hK'
        · obtain rfl := Option.some.inj ho
          have hvp : an.eval (.tmp 1) = ptrTo br0_0 := hI.oldQ (by kernel_rfl) rfl
          exact hI.pureQ (by kernel_rfl) hls rfl rfl rfl (.pointer (some ⟨br0_0, 0 + 31, none⟩)) (run_adr (off := 0) (i := 31) rfl Tryd.underlying23 size5 hvp rfl (by omega) wn) (.val (.pointer (some ⟨br0_0, 0 + 31, none⟩))) rfl rfl rfl hK'
        · exact hi.elim
      · intro an w3 hI
        obtain ⟨vr2_0, hvr2_0, hsr2_0⟩ := hI.haveQ 0 _ 12 (.val (.pointer (some ⟨br0_0, 0 + 31, none⟩))) rfl rfl rfl rfl
        obtain rfl := hsr2_0
        obtain ⟨vr2_1, hvr2_1, hsr2_1⟩ := hI.haveQ 1 _ 13 (.val (.int .u8 (k.getD 31 0))) rfl rfl rfl rfl
        obtain rfl := hsr2_1
        obtain ⟨vr2_2, hvr2_2, hsr2_2⟩ := hI.haveQ 2 _ 14 (.val (.int .u8 (bits .andNot .u8 (k.getD 31 0) 128))) rfl rfl rfl rfl
        obtain rfl := hsr2_2
        obtain ⟨vr2_3, hvr2_3, hsr2_3⟩ := hI.haveQ 3 _ 15 (.val (.pointer (some ⟨br0_0, 0 + 31, none⟩))) rfl rfl rfl rfl
        obtain rfl := hsr2_3
        have hupd := hI.upd
        have ha := hI.act [(12, .pointer (some ⟨br0_0, 0 + 31, none⟩)), (13, .int .u8 (k.getD 31 0)), (14, .int .u8 (bits .andNot .u8 (k.getD 31 0) 128)), (15, .pointer (some ⟨br0_0, 0 + 31, none⟩))] (by simp [hvr2_0, hvr2_1, hvr2_2, hvr2_3]) (by kernel_rfl)
        clear hI hvr2_0 hvr2_1 hvr2_2 hvr2_3
        subst ha
        simp only [List.foldl_cons, List.foldl_nil, List.setIfInBounds_toArray, List.set_cons_zero, List.set_cons_succ]
        have Bxr0y0_2 := Lib.hid (hupd.blk (show Blk w2 br0_0 23 (numsA .u8 k) from Bxr0y0_1.out) (fun h => h))
        have Bxr0y1_2 := Lib.hid (hupd.blk (show Blk w2 br0_1 41 zr0_1 from Bxr0y1_1.out) (fun h => h))
        have HU2 := Lib.hid (HU1.out.trans hupd)
        clear hupd
        refine wpOps_storeB 4 rfl rfl rfl 5 (.tmp 15) (.tmp 14) rfl size5 br0_0 (0 + 31) rfl (bits .andNot .u8 (k.getD 31 0) 128) rfl 23 k Bxr0y0_2.out (by rw [hl]; omega) ?_
        rw [Nat.zero_add]
        intro ws2_0 hs2_0 hus2_0
        have Bxr0y1_s2_0 := Lib.hid (hus2_0.blk Bxr0y1_2.out (fun e => hner0_0_r0_1.out e.symm))
        have Bxr0y0_s2_0 := Lib.hid hs2_0
        have HU2_0 := Lib.hid (HU2.out.step hus2_0 (fun i hi h => absurd hi (Nat.not_lt.2 (h.symm ▸ hger0_0.out))))
        clear hs2_0 hus2_0
        refine wpOps_nil ?_
        refine hK2 _ _ ?_
        clear hK2
        refine wp_seq_k fun K3 hK3 => ?_
        refine wp_seq_k fun K4 hK4 => ?_
        refine wp_region_qS 3 #[true, true, true] [] ([.val (.agg (numsA .u8 (k.set 31 (bits .andNot .u8 (k.getD 31 0) 128)))), .val (.bool true), .val (.bool false)] : List SQ) (by kernel_rfl) (by kernel_rfl) (by kernel_rfl) ?_ ?_
        · intro i o listed an wn ho hls hst hun hdep hI hpre K' hK'
          have hi : i = 0 ∨ i = 1 ∨ i = 2 ∨ False := slot_cases (l := [0, 1, 2]) rfl ho hst
          rcases hi with rfl | rfl | rfl | hi
          · obtain rfl := Option.some.inj ho
            have hvp : an.eval (.tmp 1) = ptrTo br0_0 := hI.oldQ (by kernel_rfl) rfl
            exact hI.pureQ (by kernel_rfl) hls rfl rfl rfl _ (run_loadQ rfl hvp wn (hI.upd.blk (show Blk ws2_0 br0_0 23 (numsA .u8 (k.set 31 (bits .andNot .u8 (k.getD 31 0) 128))) from Bxr0y0_s2_0.out) (fun h => h)) Tryd.underlying23 rfl sizeKey (by rw [numsA_size, (set_length hl _ _)]; omega)) (.val (.agg (numsA .u8 (k.set 31 (bits .andNot .u8 (k.getD 31 0) 128))))) rfl (congrArg Value.agg (extract_all _ 32 (by rw [numsA_size]; exact (set_length hl _ _)))) rfl hK'
          · obtain rfl := Option.some.inj ho
            obtain ⟨vp, hvp, hsp⟩ := hI.haveQ 0 _ 16 (.val (.agg (numsA .u8 (k.set 31 (bits .andNot .u8 (k.getD 31 0) 128))))) rfl rfl rfl (hdep ⟨0, .data⟩ (by simp) rfl)
            obtain rfl := hsp
            exact hI.callQ (by kernel_rfl) hls rfl rfl rfl 60 #[.tmp 16] _ rfl #[.agg (numsA .u8 (k.set 31 (bits .andNot .u8 (k.getD 31 0) 128)))] (by simp [eval_of hvp]) (run_enter Tryd.func60 (by kernel_rfl) (by kernel_rfl)) (.val (.bool true)) rfl rfl ((canonicalE (k.set 31 (bits .andNot .u8 (k.getD 31 0) 128)) (set_length hl _ _) (digs_set hd _ _ (andNot8_bnd _ _ (Digs.get (B := 256) (by decide) hd _) (by decide)).1 (andNot8_bnd _ _ (Digs.get (B := 256) (by decide) hd _) (by decide)).2)).mono fun _ _ h => ret_val (ret_b h hc)) hK'
          · obtain rfl := Option.some.inj ho
            obtain ⟨vp, hvp, hsp⟩ := hI.haveQ 1 _ 17 (.val (.bool true)) rfl rfl rfl (hdep ⟨1, .data⟩ (by simp) rfl)
            obtain rfl := hsp
            exact hI.pureQ (by kernel_rfl) hls rfl rfl rfl (.bool false) (run_not rfl (eval_of hvp) wn) (.val (.bool false)) rfl rfl rfl hK'
          · exact hi.elim
        · intro an w4 hI
          obtain ⟨vr3_0, hvr3_0, hsr3_0⟩ := hI.haveQ 0 _ 16 (.val (.agg (numsA .u8 (k.set 31 (bits .andNot .u8 (k.getD 31 0) 128))))) rfl rfl rfl rfl
          obtain rfl := hsr3_0
          obtain ⟨vr3_1, hvr3_1, hsr3_1⟩ := hI.haveQ 1 _ 17 (.val (.bool true)) rfl rfl rfl rfl
          obtain rfl := hsr3_1
          obtain ⟨vr3_2, hvr3_2, hsr3_2⟩ := hI.haveQ 2 _ 18 (.val (.bool false)) rfl rfl rfl rfl
          obtain rfl := hsr3_2
          have hupd := hI.upd
          have ha := hI.act [(16, .agg (numsA .u8 (k.set 31 (bits .andNot .u8 (k.getD 31 0) 128)))), (17, .bool true), (18, .bool false)] (by simp [hvr3_0, hvr3_1, hvr3_2]) (by kernel_rfl)
          clear hI hvr3_0 hvr3_1 hvr3_2
          subst ha
          simp only [List.foldl_cons, List.foldl_nil, List.setIfInBounds_toArray, List.set_cons_zero, List.set_cons_succ]
          have Bxr0y0_3 := Lib.hid (hupd.blk (show Blk ws2_0 br0_0 23 (numsA .u8 (k.set 31 (bits .andNot .u8 (k.getD 31 0) 128))) from Bxr0y0_s2_0.out) (fun h => h))
          have Bxr0y1_3 := Lib.hid (hupd.blk (show Blk ws2_0 br0_1 41 zr0_1 from Bxr0y1_s2_0.out) (fun h => h))
          have HU3 := Lib.hid (HU2_0.out.trans hupd)
          clear hupd
          refine wpOps_nil ?_
          refine hK4 _ _ ?_
          clear hK4
          refine wp_cond_false rfl ?_
          refine wp_skip ?_
          refine hK3 _ _ ?_
          clear hK3
          refine wp_seq_k fun K5 hK5 => ?_
          refine wp_region_qS 3 #[true, true, true, false] [3] ([.val (.agg (numsA .u8 (k.set 31 (bits .andNot .u8 (k.getD 31 0) 128)))), .like (IsC 5 RE [ofKey (k.set 31 (bits .andNot .u8 (k.getD 31 0) 128))]), .blk ptrTo 39 (Ch 5 RE [0]), .val undef] : List SQ) (by kernel_rfl) (by kernel_rfl) (by kernel_rfl) ?_ ?_
          · intro i o listed an wn ho hls hst hun hdep hI hpre K' hK'
            have hi : i = 0 ∨ i = 1 ∨ i = 2 ∨ False := slot_cases (l := [0, 1, 2]) rfl ho hst
            rcases hi with rfl | rfl | rfl | hi
            · obtain rfl := Option.some.inj ho
              have hvp : an.eval (.tmp 1) = ptrTo br0_0 := hI.oldQ (by kernel_rfl) rfl
              exact hI.pureQ (by kernel_rfl) hls rfl rfl rfl _ (run_loadQ rfl hvp wn (hI.upd.blk (show Blk w4 br0_0 23 (numsA .u8 (k.set 31 (bits .andNot .u8 (k.getD 31 0) 128))) from Bxr0y0_3.out) (fun h => h)) Tryd.underlying23 rfl sizeKey (by rw [numsA_size, (set_length hl _ _)]; omega)) (.val (.agg (numsA .u8 (k.set 31 (bits .andNot .u8 (k.getD 31 0) 128))))) rfl (congrArg Value.agg (extract_all _ 32 (by rw [numsA_size]; exact (set_length hl _ _)))) rfl hK'
            · obtain rfl := Option.some.inj ho
              obtain ⟨vp, hvp, hsp⟩ := hI.haveQ 0 _ 20 (.val (.agg (numsA .u8 (k.set 31 (bits .andNot .u8 (k.getD 31 0) 128))))) rfl rfl rfl (hdep ⟨0, .data⟩ (by simp) rfl)
              obtain rfl := hsp
              exact hI.callQ (by kernel_rfl) hls rfl rfl rfl 42 #[.tmp 20] _ rfl #[.agg (numsA .u8 (k.set 31 (bits .andNot .u8 (k.getD 31 0) 128)))] (by simp [eval_of hvp]) (run_enter Tryd.func42 (by kernel_rfl) (by kernel_rfl)) (.like (IsC 5 RE [ofKey (k.set 31 (bits .andNot .u8 (k.getD 31 0) 128))])) rfl rfl ((ofE (k.set 31 (bits .andNot .u8 (k.getD 31 0) 128)) ((set_length hl _ _)) ((digs_set hd _ _ (andNot8_bnd _ _ (Digs.get (B := 256) (by decide) hd _) (by decide)).1 (andNot8_bnd _ _ (Digs.get (B := 256) (by decide) hd _) (by decide)).2))).mono fun _ _ h => h.sq) hK'
            · obtain rfl := Option.some.inj ho
              exact hI.newQ (by kernel_rfl) hls (Nat.le_refl _) (newsQ_spec (l := [2]) (by kernel_rfl) ⟨⟨_, _, rfl⟩, trivial⟩) rfl rfl rfl 39 zE _ (run_allocQ rfl zE_run wn) rfl zE_ch hK'
            · exact hi.elim
          · intro an w5 hI
            obtain ⟨vr4_0, hvr4_0, hsr4_0⟩ := hI.haveQ 0 _ 20 (.val (.agg (numsA .u8 (k.set 31 (bits .andNot .u8 (k.getD 31 0) 128))))) rfl rfl rfl rfl
            obtain rfl := hsr4_0
            obtain ⟨vr4_1, hvr4_1, ar4_1, rfl, hCr4_1⟩ := hI.haveQ 1 _ 21 (.like (IsC 5 RE [ofKey (k.set 31 (bits .andNot .u8 (k.getD 31 0) 128))])) rfl rfl rfl rfl
            obtain ⟨vr4_2, hvr4_2, br4_2, zr4_2, rfl, hnr4_2, hbr4_2, hzr4_2⟩ := hI.haveQ 2 _ 5 (.blk ptrTo 39 (Ch 5 RE [0])) rfl rfl rfl rfl
            have hupd := hI.upd
            have ha := hI.act [(20, .agg (numsA .u8 (k.set 31 (bits .andNot .u8 (k.getD 31 0) 128)))), (21, .agg ar4_1), (5, ptrTo br4_2)] (by simp [hvr4_0, hvr4_1, hvr4_2]) (by kernel_rfl)
            clear hI hvr4_0 hvr4_1 hvr4_2
            subst ha
            simp only [List.foldl_cons, List.foldl_nil, List.setIfInBounds_toArray, List.set_cons_zero, List.set_cons_succ]
            have hner4_2_Bxr0y0_3 := Lib.hid (show br4_2 ≠ br0_0 from Nat.ne_of_gt (Nat.lt_of_lt_of_le Bxr0y0_3.out.lt hnr4_2))
            have hner4_2_Bxr0y1_3 := Lib.hid (show br4_2 ≠ br0_1 from Nat.ne_of_gt (Nat.lt_of_lt_of_le Bxr0y1_3.out.lt hnr4_2))
            have hger4_2 := Lib.hid (Nat.le_trans HU3.out.size hnr4_2)
            have Bxr0y0_4 := Lib.hid (hupd.blk (show Blk w4 br0_0 23 (numsA .u8 (k.set 31 (bits .andNot .u8 (k.getD 31 0) 128))) from Bxr0y0_3.out) (fun h => h))
            have Bxr0y1_4 := Lib.hid (hupd.blk (show Blk w4 br0_1 41 zr0_1 from Bxr0y1_3.out) (fun h => h))
            have Bxr4y2 := Lib.hid hbr4_2
            have HU4 := Lib.hid (HU3.out.trans hupd)
            clear hupd
            refine wpOps_storeQ 3 rfl rfl rfl 39 (.tmp 5) (.tmp 21) rfl br4_2 0 5 rfl ar4_1 rfl 39 zr4_2 Bxr4y2.out szE hCr4_1.size (by rw [hzr4_2.size]; exact Nat.le_of_ble_eq_true rfl) hCr4_1.one' ?_
            intro ws4_0 hs4_0 hus4_0
            rw [splice_all _ _ 5 hzr4_2.size hCr4_1.size] at hs4_0
            have Bxr0y0_s4_0 := Lib.hid (hus4_0.blk Bxr0y0_4.out (fun e => hner4_2_Bxr0y0_3.out e.symm))
            have Bxr0y1_s4_0 := Lib.hid (hus4_0.blk Bxr0y1_4.out (fun e => hner4_2_Bxr0y1_3.out e.symm))
            have Bxr4y2_s4_0 := Lib.hid hs4_0
            have HU4_0 := Lib.hid (HU4.out.step hus4_0 (fun i hi h => absurd hi (Nat.not_lt.2 (h.symm ▸ hger4_2.out))))
            clear hs4_0 hus4_0
            refine wpOps_nil ?_
            refine hK5 _ _ ?_
            clear hK5
            refine wp_seq_k fun K6 hK6 => ?_
            refine wp_region_qS 6 #[true, true, true, true, true, true, false, false] [6, 7] ([.val (.agg ar4_1), .like (IsCV 5 RE [xOf (ofKey (k.set 31 (bits .andNot .u8 (k.getD 31 0) 128)))] (.bool true)), .like (IsCV 5 RE [xOf (ofKey (k.set 31 (bits .andNot .u8 (k.getD 31 0) 128)))] (.bool true)), .like (IsC 5 RE [xOf (ofKey (k.set 31 (bits .andNot .u8 (k.getD 31 0) 128)))]), .val (.bool true), .blk ptrTo 39 (Ch 5 RE [0]), .val undef, .val undef] : List SQ) (by kernel_rfl) (by kernel_rfl) (by kernel_rfl) ?_ ?_
            · intro i o listed an wn ho hls hst hun hdep hI hpre K' hK'
              have hi : i = 0 ∨ i = 1 ∨ i = 2 ∨ i = 3 ∨ i = 4 ∨ i = 5 ∨ False := slot_cases (l := [0, 1, 2, 3, 4, 5]) rfl ho hst
              rcases hi with rfl | rfl | rfl | rfl | rfl | rfl | hi
              · obtain rfl := Option.some.inj ho
                have hvp : an.eval (.tmp 5) = ptrTo br4_2 := hI.oldQ (by kernel_rfl) rfl
                exact hI.pureQ (by kernel_rfl) hls rfl rfl rfl _ (run_loadQ rfl hvp wn (hI.upd.blk (show Blk ws4_0 br4_2 39 ar4_1 from Bxr4y2_s4_0.out) (fun h => h)) Tryd.underlying39 rfl szE (by rw [hCr4_1.size]; exact Nat.le_of_ble_eq_true rfl)) (.val (.agg ar4_1)) rfl (congrArg Value.agg (extract_all _ 5 hCr4_1.size)) rfl hK'
              · obtain rfl := Option.some.inj ho
                obtain ⟨vp, hvp, hsp⟩ := hI.haveQ 0 _ 23 (.val (.agg ar4_1)) rfl rfl rfl (hdep ⟨0, .data⟩ (by simp) rfl)
                obtain rfl := hsp
                exact hI.callQ (by kernel_rfl) hls rfl rfl rfl 61 #[.tmp 23] _ rfl #[.agg ar4_1] (by simp [eval_of hvp]) (run_enter Tryd.func61 (by kernel_rfl) (by kernel_rfl)) (.like (IsCV 5 RE [xOf (ofKey (k.set 31 (bits .andNot .u8 (k.getD 31 0) 128)))] (.bool true))) rfl rfl ((evenXP _ (HT.out.upd (HU4_0.out.trans hI.upd)) hCr4_1 (den_y _)).mono fun _ _ h => (RetCV.bool h hr).sq) hK'
              · obtain rfl := Option.some.inj ho
                obtain ⟨vp, hvp, ap, rfl, hCp⟩ := hI.haveQ 1 _ 24 (.like (IsCV 5 RE [xOf (ofKey (k.set 31 (bits .andNot .u8 (k.getD 31 0) 128)))] (.bool true))) rfl rfl rfl (hdep ⟨1, .data⟩ (by simp) rfl)
                exact hI.pureQ (by kernel_rfl) hls rfl rfl rfl _ (run_moveQ (.inl rfl) (eval_of hvp) wn) (.like (IsCV 5 RE [xOf (ofKey (k.set 31 (bits .andNot .u8 (k.getD 31 0) 128)))] (.bool true))) rfl ⟨_, rfl, hCp⟩ rfl hK'
              · obtain rfl := Option.some.inj ho
                obtain ⟨vp, hvp, ap, rfl, hCp⟩ := hI.haveQ 2 _ 22 (.like (IsCV 5 RE [xOf (ofKey (k.set 31 (bits .andNot .u8 (k.getD 31 0) 128)))] (.bool true))) rfl rfl rfl (hdep ⟨2, .data⟩ (by simp) rfl)
                exact hI.pureQ (by kernel_rfl) hls rfl rfl rfl _ (run_extractQ rfl (eval_of hvp) rfl wn) (.like (IsC 5 RE [xOf (ofKey (k.set 31 (bits .andNot .u8 (k.getD 31 0) 128)))])) rfl ⟨_, rfl, hCp⟩ rfl hK'
              · obtain rfl := Option.some.inj ho
                obtain ⟨vp, hvp, ap, rfl, hCp⟩ := hI.haveQ 2 _ 22 (.like (IsCV 5 RE [xOf (ofKey (k.set 31 (bits .andNot .u8 (k.getD 31 0) 128)))] (.bool true))) rfl rfl rfl (hdep ⟨2, .data⟩ (by simp) rfl)
                exact hI.pureQ (by kernel_rfl) hls rfl rfl rfl (.bool true) (run_extractQ rfl (eval_of hvp) rfl wn) (.val (.bool true)) rfl rfl rfl hK'
              · obtain rfl := Option.some.inj ho
                exact hI.newQ (by kernel_rfl) hls (Nat.le_refl _) (newsQ_spec (l := [5]) (by kernel_rfl) ⟨⟨_, _, rfl⟩, trivial⟩) rfl rfl rfl 39 zE _ (run_allocQ rfl zE_run wn) rfl zE_ch hK'
              · exact hi.elim
            · intro an w6 hI
              obtain ⟨vr5_0, hvr5_0, hsr5_0⟩ := hI.haveQ 0 _ 23 (.val (.agg ar4_1)) rfl rfl rfl rfl
              obtain rfl := hsr5_0
              obtain ⟨vr5_1, hvr5_1, ar5_1, rfl, hCr5_1⟩ := hI.haveQ 1 _ 24 (.like (IsCV 5 RE [xOf (ofKey (k.set 31 (bits .andNot .u8 (k.getD 31 0) 128)))] (.bool true))) rfl rfl rfl rfl
              obtain ⟨vr5_2, hvr5_2, ar5_2, rfl, hCr5_2⟩ := hI.haveQ 2 _ 22 (.like (IsCV 5 RE [xOf (ofKey (k.set 31 (bits .andNot .u8 (k.getD 31 0) 128)))] (.bool true))) rfl rfl rfl rfl
              obtain ⟨vr5_3, hvr5_3, ar5_3, rfl, hCr5_3⟩ := hI.haveQ 3 _ 25 (.like (IsC 5 RE [xOf (ofKey (k.set 31 (bits .andNot .u8 (k.getD 31 0) 128)))])) rfl rfl rfl rfl
              obtain ⟨vr5_4, hvr5_4, hsr5_4⟩ := hI.haveQ 4 _ 26 (.val (.bool true)) rfl rfl rfl rfl
              obtain rfl := hsr5_4
              obtain ⟨vr5_5, hvr5_5, br5_5, zr5_5, rfl, hnr5_5, hbr5_5, hzr5_5⟩ := hI.haveQ 5 _ 6 (.blk ptrTo 39 (Ch 5 RE [0])) rfl rfl rfl rfl
              have hupd := hI.upd
              have ha := hI.act [(23, .agg ar4_1), (24, .tuple #[.agg ar5_1, .bool true]), (22, .tuple #[.agg ar5_2, .bool true]), (25, .agg ar5_3), (26, .bool true), (6, ptrTo br5_5)] (by simp [hvr5_0, hvr5_1, hvr5_2, hvr5_3, hvr5_4, hvr5_5]) (by kernel_rfl)
              clear hI hvr5_0 hvr5_1 hvr5_2 hvr5_3 hvr5_4 hvr5_5
              subst ha
              simp only [List.foldl_cons, List.foldl_nil, List.setIfInBounds_toArray, List.set_cons_zero, List.set_cons_succ]
              have hner5_5_Bxr0y0_s4_0 := Lib.hid (show br5_5 ≠ br0_0 from Nat.ne_of_gt (Nat.lt_of_lt_of_le Bxr0y0_s4_0.out.lt hnr5_5))
              have hner5_5_Bxr0y1_s4_0 := Lib.hid (show br5_5 ≠ br0_1 from Nat.ne_of_gt (Nat.lt_of_lt_of_le Bxr0y1_s4_0.out.lt hnr5_5))
              have hner5_5_Bxr4y2_s4_0 := Lib.hid (show br5_5 ≠ br4_2 from Nat.ne_of_gt (Nat.lt_of_lt_of_le Bxr4y2_s4_0.out.lt hnr5_5))
              have hger5_5 := Lib.hid (Nat.le_trans HU4_0.out.size hnr5_5)
              have Bxr0y0_5 := Lib.hid (hupd.blk (show Blk ws4_0 br0_0 23 (numsA .u8 (k.set 31 (bits .andNot .u8 (k.getD 31 0) 128))) from Bxr0y0_s4_0.out) (fun h => h))
              have Bxr0y1_5 := Lib.hid (hupd.blk (show Blk ws4_0 br0_1 41 zr0_1 from Bxr0y1_s4_0.out) (fun h => h))
              have Bxr4y2_5 := Lib.hid (hupd.blk (show Blk ws4_0 br4_2 39 ar4_1 from Bxr4y2_s4_0.out) (fun h => h))
              have Bxr5y5 := Lib.hid hbr5_5
              have HU5 := Lib.hid (HU4_0.out.trans hupd)
              clear hupd
              refine wpOps_storeQ 6 rfl rfl rfl 39 (.tmp 6) (.tmp 25) rfl br5_5 0 5 rfl ar5_3 rfl 39 zr5_5 Bxr5y5.out szE hCr5_3.size (by rw [hzr5_5.size]; exact Nat.le_of_ble_eq_true rfl) hCr5_3.one' ?_
              intro ws5_0 hs5_0 hus5_0
              rw [splice_all _ _ 5 hzr5_5.size hCr5_3.size] at hs5_0
              have Bxr0y0_s5_0 := Lib.hid (hus5_0.blk Bxr0y0_5.out (fun e => hner5_5_Bxr0y0_s4_0.out e.symm))
              have Bxr0y1_s5_0 := Lib.hid (hus5_0.blk Bxr0y1_5.out (fun e => hner5_5_Bxr0y1_s4_0.out e.symm))
              have Bxr4y2_s5_0 := Lib.hid (hus5_0.blk Bxr4y2_5.out (fun e => hner5_5_Bxr4y2_s4_0.out e.symm))
              have Bxr5y5_s5_0 := Lib.hid hs5_0
              have HU5_0 := Lib.hid (HU5.out.step hus5_0 (fun i hi h => absurd hi (Nat.not_lt.2 (h.symm ▸ hger5_5.out))))
              clear hs5_0 hus5_0
              refine wpOps_pureQ 7 rfl rfl 7 rfl (.bool true) (run_moveQ (x := .tmp 26) (v := .bool true) (.inr rfl) rfl _) ?_
              simp only [List.setIfInBounds_toArray, List.set_cons_zero, List.set_cons_succ]
              refine wpOps_nil ?_
              refine hK6 _ _ ?_
              clear hK6
              refine wp_seq_k fun K7 hK7 => ?_
              refine wp_seq_k fun K8 hK8 => ?_
              refine wp_region_qS 9 #[true, true, true, true, true, true, true, true, true] [] ([.val (.bool true), .val (.bool false), .val (.bool false), .val (.bool false), .val (.bool false), .val undef, .val undef, .val (.bool false), .val (.bool false)] : List SQ) (by kernel_rfl) (by kernel_rfl) (by kernel_rfl) ?_ ?_
              · intro i o listed an wn ho hls hst hun hdep hI hpre K' hK'
                have hi : i = 0 ∨ i = 1 ∨ i = 2 ∨ i = 3 ∨ i = 4 ∨ i = 5 ∨ i = 6 ∨ i = 7 ∨ i = 8 ∨ False := slot_cases (l := [0, 1, 2, 3, 4, 5, 6, 7, 8]) rfl ho hst
                rcases hi with rfl | rfl | rfl | rfl | rfl | rfl | rfl | rfl | rfl | hi
                · obtain rfl := Option.some.inj ho
                  have hvp : an.eval (.tmp 7) = .bool true := hI.oldQ (by kernel_rfl) rfl
                  exact hI.pureQ (by kernel_rfl) hls rfl rfl rfl (.bool true) (run_moveQ (.inl rfl) hvp wn) (.val (.bool true)) rfl rfl rfl hK'
                · obtain rfl := Option.some.inj ho
                  obtain ⟨vp, hvp, hsp⟩ := hI.haveQ 0 _ 27 (.val (.bool true)) rfl rfl rfl (hdep ⟨0, .data⟩ (by simp) rfl)
                  obtain rfl := hsp
                  exact hI.pureQ (by kernel_rfl) hls rfl rfl rfl (.bool false) (run_not rfl (eval_of hvp) wn) (.val (.bool false)) rfl rfl rfl hK'
                · obtain rfl := Option.some.inj ho
                  obtain ⟨vp, hvp, hsp⟩ := hI.haveQ 1 _ 28 (.val (.bool false)) rfl rfl rfl (hdep ⟨1, .data⟩ (by simp) rfl)
                  obtain rfl := hsp
                  exact hI.pureQ (by kernel_rfl) hls rfl rfl rfl (.bool false) (run_moveQ (.inl rfl) (eval_of hvp) wn) (.val (.bool false)) rfl rfl rfl hK'
                · obtain rfl := Option.some.inj ho
                  obtain ⟨vg, hvg, hsg⟩ := hI.haveQ 2 _ 29 (.val (.bool false)) rfl rfl rfl (hdep ⟨2, .guard⟩ (by simp) rfl)
                  obtain rfl := hsg
                  have hvp : an.eval (.tmp 4) = .bool false := hI.oldQ (by kernel_rfl) rfl
                  exact hI.pureQ (by kernel_rfl) hls rfl (wanted_of rfl rfl rfl hvg) rfl (.bool false) (run_moveQ (.inl rfl) hvp wn) (.val (.bool false)) rfl rfl rfl hK'
                · obtain rfl := Option.some.inj ho
                  obtain ⟨vg, hvg, hsg⟩ := hI.haveQ 2 _ 29 (.val (.bool false)) rfl rfl rfl (hdep ⟨2, .guard⟩ (by simp) rfl)
                  obtain rfl := hsg
                  obtain ⟨vp, hvp, hsp⟩ := hI.haveQ 3 _ 30 (.val (.bool false)) rfl rfl rfl (hdep ⟨3, .data⟩ (by simp) rfl)
                  obtain rfl := hsp
                  exact hI.pureQ (by kernel_rfl) hls rfl (wanted_of rfl rfl rfl hvg) rfl (.bool false) (run_moveQ (.inl rfl) (eval_of hvp) wn) (.val (.bool false)) rfl rfl rfl hK'
                · obtain rfl := Option.some.inj ho
                  obtain ⟨vg, hvg, hsg⟩ := hI.haveQ 4 _ 31 (.val (.bool false)) rfl rfl rfl (hdep ⟨4, .guard⟩ (by simp) rfl)
                  obtain rfl := hsg
                  exact hI.skipQ (by kernel_rfl) hls rfl (wanted_notQ rfl rfl rfl hvg rfl) rfl rfl rfl hK'
                · obtain rfl := Option.some.inj ho
                  obtain ⟨vg, hvg, hsg⟩ := hI.haveQ 4 _ 31 (.val (.bool false)) rfl rfl rfl (hdep ⟨4, .guard⟩ (by simp) rfl)
                  obtain rfl := hsg
                  exact hI.skipQ (by kernel_rfl) hls rfl (wanted_notQ rfl rfl rfl hvg rfl) rfl rfl rfl hK'
                · obtain rfl := Option.some.inj ho
                  obtain ⟨vg, hvg, hsg⟩ := hI.haveQ 2 _ 29 (.val (.bool false)) rfl rfl rfl (hdep ⟨2, .guard⟩ (by simp) rfl)
                  obtain rfl := hsg
                  obtain ⟨vp, hvp, hsp⟩ := hI.haveQ 4 _ 31 (.val (.bool false)) rfl rfl rfl (hdep ⟨4, .data⟩ (by simp) rfl)
                  obtain rfl := hsp
                  exact hI.pureQ (by kernel_rfl) hls rfl (wanted_of rfl rfl rfl hvg) rfl (.bool false) (run_pickF rfl (eval_of hvp) (show an.eval (.const (.bool false)) = .bool false from rfl) wn) (.val (.bool false)) rfl rfl rfl hK'
                · obtain rfl := Option.some.inj ho
                  obtain ⟨vp, hvp, hsp⟩ := hI.haveQ 2 _ 29 (.val (.bool false)) rfl rfl rfl (hdep ⟨2, .data⟩ (by simp) rfl)
                  obtain rfl := hsp
                  obtain ⟨vq, hvq, hsq⟩ := hI.haveQ 7 _ 34 (.val (.bool false)) rfl rfl rfl (hdep ⟨7, .data⟩ (by simp) rfl)
                  obtain rfl := hsq
                  exact hI.pureQ (by kernel_rfl) hls rfl rfl rfl (.bool false) (run_pickF rfl (eval_of hvp) (eval_of hvq) wn) (.val (.bool false)) rfl rfl rfl hK'
                · exact hi.elim
              · intro an w7 hI
                obtain ⟨vr6_0, hvr6_0, hsr6_0⟩ := hI.haveQ 0 _ 27 (.val (.bool true)) rfl rfl rfl rfl
                obtain rfl := hsr6_0
                obtain ⟨vr6_1, hvr6_1, hsr6_1⟩ := hI.haveQ 1 _ 28 (.val (.bool false)) rfl rfl rfl rfl
                obtain rfl := hsr6_1
                obtain ⟨vr6_2, hvr6_2, hsr6_2⟩ := hI.haveQ 2 _ 29 (.val (.bool false)) rfl rfl rfl rfl
                obtain rfl := hsr6_2
                obtain ⟨vr6_3, hvr6_3, hsr6_3⟩ := hI.haveQ 3 _ 30 (.val (.bool false)) rfl rfl rfl rfl
                obtain rfl := hsr6_3
                obtain ⟨vr6_4, hvr6_4, hsr6_4⟩ := hI.haveQ 4 _ 31 (.val (.bool false)) rfl rfl rfl rfl
                obtain rfl := hsr6_4
                obtain ⟨vr6_5, hvr6_5, hsr6_5⟩ := hI.haveQ 5 _ 32 (.val undef) rfl rfl rfl rfl
                obtain rfl := hsr6_5
                obtain ⟨vr6_6, hvr6_6, hsr6_6⟩ := hI.haveQ 6 _ 33 (.val undef) rfl rfl rfl rfl
                obtain rfl := hsr6_6
                obtain ⟨vr6_7, hvr6_7, hsr6_7⟩ := hI.haveQ 7 _ 34 (.val (.bool false)) rfl rfl rfl rfl
                obtain rfl := hsr6_7
                obtain ⟨vr6_8, hvr6_8, hsr6_8⟩ := hI.haveQ 8 _ 35 (.val (.bool false)) rfl rfl rfl rfl
                obtain rfl := hsr6_8
                have hupd := hI.upd
                have ha := hI.act [(27, .bool true), (28, .bool false), (29, .bool false), (30, .bool false), (31, .bool false), (32, undef), (33, undef), (34, .bool false), (35, .bool false)] (by simp [hvr6_0, hvr6_1, hvr6_2, hvr6_3, hvr6_4, hvr6_5, hvr6_6, hvr6_7, hvr6_8]) (by kernel_rfl)
                clear hI hvr6_0 hvr6_1 hvr6_2 hvr6_3 hvr6_4 hvr6_5 hvr6_6 hvr6_7 hvr6_8
                subst ha
                simp only [List.foldl_cons, List.foldl_nil, List.setIfInBounds_toArray, List.set_cons_zero, List.set_cons_succ]
                have Bxr0y0_6 := Lib.hid (hupd.blk (show Blk ws5_0 br0_0 23 (numsA .u8 (k.set 31 (bits .andNot .u8 (k.getD 31 0) 128))) from Bxr0y0_s5_0.out) (fun h => h))
                have Bxr0y1_6 := Lib.hid (hupd.blk (show Blk ws5_0 br0_1 41 zr0_1 from Bxr0y1_s5_0.out) (fun h => h))
                have Bxr4y2_6 := Lib.hid (hupd.blk (show Blk ws5_0 br4_2 39 ar4_1 from Bxr4y2_s5_0.out) (fun h => h))
                have Bxr5y5_6 := Lib.hid (hupd.blk (show Blk ws5_0 br5_5 39 ar5_3 from Bxr5y5_s5_0.out) (fun h => h))
                have HU6 := Lib.hid (HU5_0.out.trans hupd)
                clear hupd
                refine wpOps_nil ?_
                refine hK8 _ _ ?_
                clear hK8
                refine wp_cond_false rfl ?_
                refine wp_skip ?_
                refine hK7 _ _ ?_
                clear hK7
                refine wp_seq_k fun K9 hK9 => ?_
                refine wp_seq_k fun K10 hK10 => ?_
                refine wp_region_qS 1 #[true] [] ([.val (.bool false)] : List SQ) (by kernel_rfl) (by kernel_rfl) (by kernel_rfl) ?_ ?_
                · intro i o listed an wn ho hls hst hun hdep hI hpre K' hK'
                  have hi : i = 0 ∨ False := slot_cases (l := [0]) rfl ho hst
                  rcases hi with rfl | hi
                  · obtain rfl := Option.some.inj ho
                    have hvp : an.eval (.tmp 4) = .bool false := hI.oldQ (by kernel_rfl) rfl
                    exact hI.pureQ (by kernel_rfl) hls rfl rfl rfl (.bool false) (run_moveQ (.inl rfl) hvp wn) (.val (.bool false)) rfl rfl rfl hK'
                  · exact hi.elim
                · intro an w8 hI
                  obtain ⟨vr7_0, hvr7_0, hsr7_0⟩ := hI.haveQ 0 _ 37 (.val (.bool false)) rfl rfl rfl rfl
                  obtain rfl := hsr7_0
                  have hupd := hI.upd
                  have ha := hI.act [(37, .bool false)] (by simp [hvr7_0]) (by kernel_rfl)
                  clear hI hvr7_0
                  subst ha
                  simp only [List.foldl_cons, List.foldl_nil, List.setIfInBounds_toArray, List.set_cons_zero, List.set_cons_succ]
                  have Bxr0y0_7 := Lib.hid (hupd.blk (show Blk w7 br0_0 23 (numsA .u8 (k.set 31 (bits .andNot .u8 (k.getD 31 0) 128))) from Bxr0y0_6.out) (fun h => h))
                  have Bxr0y1_7 := Lib.hid (hupd.blk (show Blk w7 br0_1 41 zr0_1 from Bxr0y1_6.out) (fun h => h))
                  have Bxr4y2_7 := Lib.hid (hupd.blk (show Blk w7 br4_2 39 ar4_1 from Bxr4y2_6.out) (fun h => h))
                  have Bxr5y5_7 := Lib.hid (hupd.blk (show Blk w7 br5_5 39 ar5_3 from Bxr5y5_6.out) (fun h => h))
                  have HU7 := Lib.hid (HU6.out.trans hupd)
                  clear hupd
                  refine wpOps_nil ?_
                  refine hK10 _ _ ?_
                  clear hK10
                  refine wp_cond_false rfl ?_
                  refine wp_skip ?_
                  refine hK9 _ _ ?_
                  clear hK9
                  refine wp_seq_k fun K11 hK11 => ?_
                  refine wp_region_qS 3 #[true, true, true, false, false] [3, 4] ([.val (.agg ar5_3), .val (.agg ar4_1), .like (IsC 5 RE [xOf (ofKey (k.set 31 (bits .andNot .u8 (k.getD 31 0) 128))), ofKey (k.set 31 (bits .andNot .u8 (k.getD 31 0) 128)), fv 1, (xOf (ofKey (k.set 31 (bits .andNot .u8 (k.getD 31 0) 128)))) * (ofKey (k.set 31 (bits .andNot .u8 (k.getD 31 0) 128)))]), .val undef, .val undef] : List SQ) (by kernel_rfl) (by kernel_rfl) (by kernel_rfl) ?_ ?_
                  · intro i o listed an wn ho hls hst hun hdep hI hpre K' hK'
                    have hi : i = 0 ∨ i = 1 ∨ i = 2 ∨ False := slot_cases (l := [0, 1, 2]) rfl ho hst
                    rcases hi with rfl | rfl | rfl | hi
                    · obtain rfl := Option.some.inj ho
                      have hvp : an.eval (.tmp 6) = ptrTo br5_5 := hI.oldQ (by kernel_rfl) rfl
                      exact hI.pureQ (by kernel_rfl) hls rfl rfl rfl _ (run_loadQ rfl hvp wn (hI.upd.blk (show Blk w8 br5_5 39 ar5_3 from Bxr5y5_7.out) (fun h => h)) Tryd.underlying39 rfl szE (by rw [hCr5_3.size]; exact Nat.le_of_ble_eq_true rfl)) (.val (.agg ar5_3)) rfl (congrArg Value.agg (extract_all _ 5 hCr5_3.size)) rfl hK'
                    · obtain rfl := Option.some.inj ho
                      have hvp : an.eval (.tmp 5) = ptrTo br4_2 := hI.oldQ (by kernel_rfl) rfl
                      exact hI.pureQ (by kernel_rfl) hls rfl rfl rfl _ (run_loadQ rfl hvp wn (hI.upd.blk (show Blk w8 br4_2 39 ar4_1 from Bxr4y2_7.out) (fun h => h)) Tryd.underlying39 rfl szE (by rw [hCr4_1.size]; exact Nat.le_of_ble_eq_true rfl)) (.val (.agg ar4_1)) rfl (congrArg Value.agg (extract_all _ 5 hCr4_1.size)) rfl hK'
                    · obtain rfl := Option.some.inj ho
                      obtain ⟨vp, hvp, hsp⟩ := hI.haveQ 0 _ 40 (.val (.agg ar5_3)) rfl rfl rfl (hdep ⟨0, .data⟩ (by simp) rfl)
                      obtain rfl := hsp
                      obtain ⟨vq, hvq, hsq⟩ := hI.haveQ 1 _ 41 (.val (.agg ar4_1)) rfl rfl rfl (hdep ⟨1, .data⟩ (by simp) rfl)
                      obtain rfl := hsq
                      exact hI.callQ (by kernel_rfl) hls rfl rfl rfl 64 #[.tmp 40, .tmp 41] _ rfl #[.agg ar5_3, .agg ar4_1] (by simp [eval_of hvp, eval_of hvq]) (run_enter Tryd.func64 (by kernel_rfl) (by kernel_rfl)) (.like (IsC 5 RE [xOf (ofKey (k.set 31 (bits .andNot .u8 (k.getD 31 0) 128))), ofKey (k.set 31 (bits .andNot .u8 (k.getD 31 0) 128)), fv 1, (xOf (ofKey (k.set 31 (bits .andNot .u8 (k.getD 31 0) 128)))) * (ofKey (k.set 31 (bits .andNot .u8 (k.getD 31 0) 128)))])) rfl rfl ((ofP _ hCr5_3 hCr4_1).mono fun _ _ h => h.sq) hK'
                    · exact hi.elim
                  · intro an w9 hI
                    obtain ⟨vr8_0, hvr8_0, hsr8_0⟩ := hI.haveQ 0 _ 40 (.val (.agg ar5_3)) rfl rfl rfl rfl
                    obtain rfl := hsr8_0
                    obtain ⟨vr8_1, hvr8_1, hsr8_1⟩ := hI.haveQ 1 _ 41 (.val (.agg ar4_1)) rfl rfl rfl rfl
                    obtain rfl := hsr8_1
                    obtain ⟨vr8_2, hvr8_2, ar8_2, rfl, hCr8_2⟩ := hI.haveQ 2 _ 42 (.like (IsC 5 RE [xOf (ofKey (k.set 31 (bits .andNot .u8 (k.getD 31 0) 128))), ofKey (k.set 31 (bits .andNot .u8 (k.getD 31 0) 128)), fv 1, (xOf (ofKey (k.set 31 (bits .andNot .u8 (k.getD 31 0) 128)))) * (ofKey (k.set 31 (bits .andNot .u8 (k.getD 31 0) 128)))])) rfl rfl rfl rfl
                    have hupd := hI.upd
                    have ha := hI.act [(40, .agg ar5_3), (41, .agg ar4_1), (42, .agg ar8_2)] (by simp [hvr8_0, hvr8_1, hvr8_2]) (by kernel_rfl)
                    clear hI hvr8_0 hvr8_1 hvr8_2
                    subst ha
                    simp only [List.foldl_cons, List.foldl_nil, List.setIfInBounds_toArray, List.set_cons_zero, List.set_cons_succ]
                    have Bxr0y0_8 := Lib.hid (hupd.blk (show Blk w8 br0_0 23 (numsA .u8 (k.set 31 (bits .andNot .u8 (k.getD 31 0) 128))) from Bxr0y0_7.out) (fun h => h))
                    have Bxr0y1_8 := Lib.hid (hupd.blk (show Blk w8 br0_1 41 zr0_1 from Bxr0y1_7.out) (fun h => h))
                    have Bxr4y2_8 := Lib.hid (hupd.blk (show Blk w8 br4_2 39 ar4_1 from Bxr4y2_7.out) (fun h => h))
                    have Bxr5y5_8 := Lib.hid (hupd.blk (show Blk w8 br5_5 39 ar5_3 from Bxr5y5_7.out) (fun h => h))
                    have HU8 := Lib.hid (HU7.out.trans hupd)
                    clear hupd
                    refine wpOps_storeQ 3 rfl rfl rfl 41 (.tmp 2) (.tmp 42) rfl br0_1 0 20 rfl ar8_2 rfl 41 zr0_1 Bxr0y1_8.out szPt hCr8_2.size (by rw [hzr0_1.size]; exact Nat.le_of_ble_eq_true rfl) hCr8_2.one' ?_
                    intro ws8_0 hs8_0 hus8_0
                    rw [splice_all _ _ 20 hzr0_1.size hCr8_2.size] at hs8_0
                    have Bxr0y0_s8_0 := Lib.hid (hus8_0.blk Bxr0y0_8.out (fun e => hner0_0_r0_1.out e))
                    have Bxr4y2_s8_0 := Lib.hid (hus8_0.blk Bxr4y2_8.out (fun e => hner4_2_Bxr0y1_3.out e))
                    have Bxr5y5_s8_0 := Lib.hid (hus8_0.blk Bxr5y5_8.out (fun e => hner5_5_Bxr0y1_s4_0.out e))
                    have Bxr0y1_s8_0 := Lib.hid hs8_0
                    have HU8_0 := Lib.hid (HU8.out.step hus8_0 (fun i hi h => absurd hi (Nat.not_lt.2 (h.symm ▸ hger0_1.out))))
                    clear hs8_0 hus8_0
                    refine wpOps_pureQ 4 rfl rfl 3 rfl (.int .i64 0) (run_moveQ (x := .const (.int .i64 0)) (v := .int .i64 0) (.inr rfl) rfl _) ?_
                    simp only [List.setIfInBounds_toArray, List.set_cons_zero, List.set_cons_succ]
                    refine wpOps_nil ?_
                    refine hK11 _ _ ?_
                    clear hK11
                    refine wp_ret ?_
                    try dsimp only [Exit.then]
                    try dsimp only [Exit.inBlock]
                    exact bodyPost_ret (v := .tuple #[.agg ar8_2, .int .i64 0]) (results_cell_tmpQ (fn := Tryd.f24) (p := 2) (q := 3) (ty := 41) rfl _ _ br0_1 ar8_2 (.int .i64 0) rfl rfl Bxr0y1_s8_0.out Tryd.underlying41 rfl (by rw [hCr8_2.size]; exact szPt)) rfl ⟨_, rfl, hCr8_2, HU8_0.out⟩
theorem low_eq {k : List Int} (hd : Digs 256 k) : k.set 31 (bits .andNot .u8 (k.getD 31 0) 128) = lowK k := by
  unfold lowK
  rw [andN128 _ (hd.get (B := 256) (by omega) 31)]
theorem odd_eq {k : List Int} (hd : Digs 256 k) : decide (bits .and .u8 (k.getD 31 0) 128 = 0) = decide (¬ 128 ≤ k.getD 31 0) := by
  rw [and128 _ (hd.get (B := 256) (by omega) 31), decide_eq_decide]
  split <;> omega
end Go.Proofs.YtdpafemcpbhlfaaDoor
