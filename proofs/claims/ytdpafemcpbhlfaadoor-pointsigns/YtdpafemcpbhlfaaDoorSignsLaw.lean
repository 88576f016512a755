/-
  The walk of PointSigns.
-/
import Derived.Test.YtdpafemcpbhlfaaDoorPt5
namespace Go.Proofs.YtdpafemcpbhlfaaDoor
set_option maxRecDepth 100000
open Go.RowKit

set_option maxHeartbeats 4000000 in
theorem signsN {k : List Int} (w : World) (hT : Tw w) (hl : k.length = 32) (hd : Digs 256 k) (hk : ∀ e : EP, encP e ≠ k) :
    Calls Tryd.prog 14 #[.agg (numsA .u8 k)] w fun e w' => e = .returned (.bool true) ∧ Upd (fun _ => False) w w' := by
  have HT := Lib.hid hT
  clear hT
  have HU := Lib.hid (Upd.refl (fun _ => False) w)
  go_enter Tryd.func14, Tryd.ntmps14
  refine wp_seq_k fun K0 hK0 => ?_
  refine wp_region_qS 2 #[true, true] [] ([.blk ptrTo 23 (fun z => z = numsA .u8 k), .val (.bool false)] : List SQ) (by kernel_rfl) (by kernel_rfl) (by kernel_rfl) ?_ ?_
  · intro i o listed an wn ho hls hst hun hdep hI hpre K' hK'
    have hi : i = 0 ∨ i = 1 ∨ False := slot_cases (l := [0, 1]) rfl ho hst
    rcases hi with rfl | rfl | hi
    · obtain rfl := Option.some.inj ho
      have hvp : an.eval (.tmp 0) = .agg (numsA .u8 k) := hI.oldQ (by kernel_rfl) rfl
      exact hI.newQ (by kernel_rfl) hls (Nat.le_refl _) (newsQ_spec (l := [0]) (by kernel_rfl) ⟨⟨_, _, rfl⟩, trivial⟩) rfl rfl rfl 23 _ (fun z => z = numsA .u8 k) (run_boxQ rfl hvp wn) rfl rfl hK'
    · obtain rfl := Option.some.inj ho
      exact hI.pureQ (by kernel_rfl) hls rfl rfl rfl (.bool false) (run_moveQ (.inr rfl) (show an.eval (.const (.bool false)) = .bool false from rfl) wn) (.val (.bool false)) rfl rfl rfl hK'
    · exact hi.elim
  · intro an w1 hI
    obtain ⟨vr0_0, hvr0_0, br0_0, zr0_0, rfl, hnr0_0, hbr0_0, hzr0_0⟩ := hI.haveQ 0 _ 1 (.blk ptrTo 23 (fun z => z = numsA .u8 k)) rfl rfl rfl rfl
    rw [hzr0_0] at hbr0_0
    clear hzr0_0
    obtain ⟨vr0_1, hvr0_1, hsr0_1⟩ := hI.haveQ 1 _ 2 (.val (.bool false)) rfl rfl rfl rfl
    obtain rfl := hsr0_1
    have hupd := hI.upd
    have ha := hI.act [(1, ptrTo br0_0), (2, .bool false)] (by simp [hvr0_0, hvr0_1]) (by kernel_rfl)
    clear hI hvr0_0 hvr0_1
    subst ha
    simp only [List.foldl_cons, List.foldl_nil, List.setIfInBounds_toArray, List.set_cons_zero, List.set_cons_succ]
    have hger0_0 := Lib.hid (Nat.le_trans HU.out.size hnr0_0)
    have Bxr0y0 := Lib.hid hbr0_0
    have HU0 := Lib.hid (HU.out.trans hupd)
    clear hupd
    refine wpOps_nil ?_
    refine hK0 _ _ ?_
    clear hK0
    refine wp_seq_k fun K1 hK1 => ?_
    refine wp_seq_k fun K2 hK2 => ?_
    refine wp_region_qS 2 #[true, true] [] ([.val (.bool true), .val (.bool false)] : List SQ) (by kernel_rfl) (by kernel_rfl) (by kernel_rfl) ?_ ?_
    · intro i o listed an wn ho hls hst hun hdep hI hpre K' hK'
      have hi : i = 0 ∨ i = 1 ∨ False := slot_cases (l := [0, 1]) rfl ho hst
      rcases hi with rfl | rfl | hi
      · obtain rfl := Option.some.inj ho
        exact hI.callQ (by kernel_rfl) hls rfl rfl rfl 23 #[] _ rfl #[] (by simp) (run_enter Tryd.func23 (by kernel_rfl) (by kernel_rfl)) (.val (.bool true)) rfl rfl ((basedL _ (HT.out.upd (HU0.out.trans hI.upd))).mono fun _ _ h => ret_val h) hK'
      · obtain rfl := Option.some.inj ho
        obtain ⟨vp, hvp, hsp⟩ := hI.haveQ 0 _ 6 (.val (.bool true)) rfl rfl rfl (hdep ⟨0, .data⟩ (by simp) rfl)
        obtain rfl := hsp
        exact hI.pureQ (by kernel_rfl) hls rfl rfl rfl (.bool false) (run_not rfl (eval_of hvp) wn) (.val (.bool false)) rfl rfl rfl hK'
      · exact hi.elim
    · intro an w2 hI
      obtain ⟨vr1_0, hvr1_0, hsr1_0⟩ := hI.haveQ 0 _ 6 (.val (.bool true)) rfl rfl rfl rfl
      obtain rfl := hsr1_0
      obtain ⟨vr1_1, hvr1_1, hsr1_1⟩ := hI.haveQ 1 _ 7 (.val (.bool false)) rfl rfl rfl rfl
      obtain rfl := hsr1_1
      have hupd := hI.upd
      have ha := hI.act [(6, .bool true), (7, .bool false)] (by simp [hvr1_0, hvr1_1]) (by kernel_rfl)
      clear hI hvr1_0 hvr1_1
      subst ha
      simp only [List.foldl_cons, List.foldl_nil, List.setIfInBounds_toArray, List.set_cons_zero, List.set_cons_succ]
      have Bxr0y0_1 := Lib.hid (hupd.blk (show Blk w1 br0_0 23 (numsA .u8 k) from Bxr0y0.out) (fun h => h))
      have HU1 := Lib.hid (HU0.out.trans hupd)
      clear hupd
      refine wpOps_nil ?_
      refine hK2 _ _ ?_
      clear hK2
      refine wp_cond_false rfl ?_
      refine wp_skip ?_
      refine hK1 _ _ ?_
      clear hK1
      refine wp_seq_k fun K3 hK3 => ?_
      refine wp_region_qS 6 #[true, true, true, true, true, true, false, false] [6, 7] ([.val (.agg (numsA .u8 k)), .like (IsCV 20 RP [none] (.int .i64 60)), .like (IsCV 20 RP [none] (.int .i64 60)), .like (IsC 20 RP [none]), .val (.int .i64 60), .blk ptrTo 41 (Ch 20 RP [none]), .val undef, .val undef] : List SQ) (by kernel_rfl) (by kernel_rfl) (by kernel_rfl) ?_ ?_
      · intro i o listed an wn ho hls hst hun hdep hI hpre K' hK'
        have hi : i = 0 ∨ i = 1 ∨ i = 2 ∨ i = 3 ∨ i = 4 ∨ i = 5 ∨ False := slot_cases (l := [0, 1, 2, 3, 4, 5]) rfl ho hst
        rcases hi with rfl | rfl | rfl | rfl | rfl | rfl | hi
        · obtain rfl := Option.some.inj ho
          have hvp : an.eval (.tmp 1) = ptrTo br0_0 := hI.oldQ (by kernel_rfl) rfl
          exact hI.pureQ (by kernel_rfl) hls rfl rfl rfl _ (run_loadQ rfl hvp wn (hI.upd.blk (show Blk w2 br0_0 23 (numsA .u8 k) from Bxr0y0_1.out) (fun h => h)) Tryd.underlying23 rfl sizeKey (by rw [numsA_size, hl]; omega)) (.val (.agg (numsA .u8 k))) rfl (congrArg Value.agg (extract_all _ 32 (by rw [numsA_size]; exact hl))) rfl hK'
        · obtain rfl := Option.some.inj ho
          obtain ⟨vp, hvp, hsp⟩ := hI.haveQ 0 _ 9 (.val (.agg (numsA .u8 k))) rfl rfl rfl (hdep ⟨0, .data⟩ (by simp) rfl)
          obtain rfl := hsp
          exact hI.callQ (by kernel_rfl) hls rfl rfl rfl 24 #[.tmp 9] _ rfl #[.agg (numsA .u8 k)] (by simp [eval_of hvp]) (run_enter Tryd.func24 (by kernel_rfl) (by kernel_rfl)) (.like (IsCV 20 RP [none] (.int .i64 60))) rfl rfl ((decodeF _ (HT.out.upd (HU1.out.trans hI.upd)) hl hd hk).mono fun _ _ h => h.sq) hK'
        · obtain rfl := Option.some.inj ho
          obtain ⟨vp, hvp, ap, rfl, hCp⟩ := hI.haveQ 1 _ 10 (.like (IsCV 20 RP [none] (.int .i64 60))) rfl rfl rfl (hdep ⟨1, .data⟩ (by simp) rfl)
          exact hI.pureQ (by kernel_rfl) hls rfl rfl rfl _ (run_moveQ (.inl rfl) (eval_of hvp) wn) (.like (IsCV 20 RP [none] (.int .i64 60))) rfl ⟨_, rfl, hCp⟩ rfl hK'
        · obtain rfl := Option.some.inj ho
          obtain ⟨vp, hvp, ap, rfl, hCp⟩ := hI.haveQ 2 _ 8 (.like (IsCV 20 RP [none] (.int .i64 60))) rfl rfl rfl (hdep ⟨2, .data⟩ (by simp) rfl)
          exact hI.pureQ (by kernel_rfl) hls rfl rfl rfl _ (run_extractQ rfl (eval_of hvp) rfl wn) (.like (IsC 20 RP [none])) rfl ⟨_, rfl, hCp⟩ rfl hK'
        · obtain rfl := Option.some.inj ho
          obtain ⟨vp, hvp, ap, rfl, hCp⟩ := hI.haveQ 2 _ 8 (.like (IsCV 20 RP [none] (.int .i64 60))) rfl rfl rfl (hdep ⟨2, .data⟩ (by simp) rfl)
          exact hI.pureQ (by kernel_rfl) hls rfl rfl rfl (.int .i64 60) (run_extractQ rfl (eval_of hvp) rfl wn) (.val (.int .i64 60)) rfl rfl rfl hK'
        · obtain rfl := Option.some.inj ho
          exact hI.newQ (by kernel_rfl) hls (Nat.le_refl _) (newsQ_spec (l := [5]) (by kernel_rfl) ⟨⟨_, _, rfl⟩, trivial⟩) rfl rfl rfl 41 zPt _ (run_allocQ rfl zPt_run wn) rfl zPt_p hK'
        · exact hi.elim
      · intro an w3 hI
        obtain ⟨vr2_0, hvr2_0, hsr2_0⟩ := hI.haveQ 0 _ 9 (.val (.agg (numsA .u8 k))) rfl rfl rfl rfl
        obtain rfl := hsr2_0
        obtain ⟨vr2_1, hvr2_1, ar2_1, rfl, hCr2_1⟩ := hI.haveQ 1 _ 10 (.like (IsCV 20 RP [none] (.int .i64 60))) rfl rfl rfl rfl
        obtain ⟨vr2_2, hvr2_2, ar2_2, rfl, hCr2_2⟩ := hI.haveQ 2 _ 8 (.like (IsCV 20 RP [none] (.int .i64 60))) rfl rfl rfl rfl
        obtain ⟨vr2_3, hvr2_3, ar2_3, rfl, hCr2_3⟩ := hI.haveQ 3 _ 11 (.like (IsC 20 RP [none])) rfl rfl rfl rfl
        obtain ⟨vr2_4, hvr2_4, hsr2_4⟩ := hI.haveQ 4 _ 12 (.val (.int .i64 60)) rfl rfl rfl rfl
        obtain rfl := hsr2_4
        obtain ⟨vr2_5, hvr2_5, br2_5, zr2_5, rfl, hnr2_5, hbr2_5, hzr2_5⟩ := hI.haveQ 5 _ 3 (.blk ptrTo 41 (Ch 20 RP [none])) rfl rfl rfl rfl
        have hupd := hI.upd
        have ha := hI.act [(9, .agg (numsA .u8 k)), (10, .tuple #[.agg ar2_1, .int .i64 60]), (8, .tuple #[.agg ar2_2, .int .i64 60]), (11, .agg ar2_3), (12, .int .i64 60), (3, ptrTo br2_5)] (by simp [hvr2_0, hvr2_1, hvr2_2, hvr2_3, hvr2_4, hvr2_5]) (by kernel_rfl)
        clear hI hvr2_0 hvr2_1 hvr2_2 hvr2_3 hvr2_4 hvr2_5
        subst ha
        simp only [List.foldl_cons, List.foldl_nil, List.setIfInBounds_toArray, List.set_cons_zero, List.set_cons_succ]
        have hner2_5_Bxr0y0_1 := Lib.hid (show br2_5 ≠ br0_0 from Nat.ne_of_gt (Nat.lt_of_lt_of_le Bxr0y0_1.out.lt hnr2_5))
        have hger2_5 := Lib.hid (Nat.le_trans HU1.out.size hnr2_5)
        have Bxr0y0_2 := Lib.hid (hupd.blk (show Blk w2 br0_0 23 (numsA .u8 k) from Bxr0y0_1.out) (fun h => h))
        have Bxr2y5 := Lib.hid hbr2_5
        have HU2 := Lib.hid (HU1.out.trans hupd)
        clear hupd
        refine wpOps_storeQ 6 rfl rfl rfl 41 (.tmp 3) (.tmp 11) rfl br2_5 0 20 rfl ar2_3 rfl 41 zr2_5 Bxr2y5.out szPt hCr2_3.size (by rw [hzr2_5.size]; exact Nat.le_of_ble_eq_true rfl) hCr2_3.one' ?_
        intro ws2_0 hs2_0 hus2_0
        rw [splice_all _ _ 20 hzr2_5.size hCr2_3.size] at hs2_0
        have Bxr0y0_s2_0 := Lib.hid (hus2_0.blk Bxr0y0_2.out (fun e => hner2_5_Bxr0y0_1.out e.symm))
        have Bxr2y5_s2_0 := Lib.hid hs2_0
        have HU2_0 := Lib.hid (HU2.out.step hus2_0 (fun i hi h => absurd hi (Nat.not_lt.2 (h.symm ▸ hger2_5.out))))
        clear hs2_0 hus2_0
        refine wpOps_pureQ 7 rfl rfl 4 rfl (.int .i64 60) (run_moveQ (x := .tmp 12) (v := .int .i64 60) (.inr rfl) rfl _) ?_
        simp only [List.setIfInBounds_toArray, List.set_cons_zero, List.set_cons_succ]
        refine wpOps_nil ?_
        refine hK3 _ _ ?_
        clear hK3
        refine wp_seq_k fun K4 hK4 => ?_
        refine wp_seq_k fun K5 hK5 => ?_
        refine wp_region_qS 2 #[true, true] [] ([.val (.int .i64 60), .val (.bool true)] : List SQ) (by kernel_rfl) (by kernel_rfl) (by kernel_rfl) ?_ ?_
        · intro i o listed an wn ho hls hst hun hdep hI hpre K' hK'
          have hi : i = 0 ∨ i = 1 ∨ False := slot_cases (l := [0, 1]) rfl ho hst
          rcases hi with rfl | rfl | hi
          · obtain rfl := Option.some.inj ho
            have hvp : an.eval (.tmp 4) = .int .i64 60 := hI.oldQ (by kernel_rfl) rfl
            exact hI.pureQ (by kernel_rfl) hls rfl rfl rfl (.int .i64 60) (run_moveQ (.inl rfl) hvp wn) (.val (.int .i64 60)) rfl rfl rfl hK'
          · obtain rfl := Option.some.inj ho
            obtain ⟨vp, hvp, hsp⟩ := hI.haveQ 0 _ 13 (.val (.int .i64 60)) rfl rfl rfl (hdep ⟨0, .data⟩ (by simp) rfl)
            obtain rfl := hsp
            exact hI.pureQ (by kernel_rfl) hls rfl rfl rfl (.bool true) (run_neq rfl (eval_of hvp) rfl (ne_of_eqB (show decide ((60 : Int) = 0) = false by decide)) wn) (.val (.bool true)) rfl rfl rfl hK'
          · exact hi.elim
        · intro an w4 hI
          obtain ⟨vr3_0, hvr3_0, hsr3_0⟩ := hI.haveQ 0 _ 13 (.val (.int .i64 60)) rfl rfl rfl rfl
          obtain rfl := hsr3_0
          obtain ⟨vr3_1, hvr3_1, hsr3_1⟩ := hI.haveQ 1 _ 14 (.val (.bool true)) rfl rfl rfl rfl
          obtain rfl := hsr3_1
          have hupd := hI.upd
          have ha := hI.act [(13, .int .i64 60), (14, .bool true)] (by simp [hvr3_0, hvr3_1]) (by kernel_rfl)
          clear hI hvr3_0 hvr3_1
          subst ha
          simp only [List.foldl_cons, List.foldl_nil, List.setIfInBounds_toArray, List.set_cons_zero, List.set_cons_succ]
          have Bxr0y0_3 := Lib.hid (hupd.blk (show Blk ws2_0 br0_0 23 (numsA .u8 k) from Bxr0y0_s2_0.out) (fun h => h))
          have Bxr2y5_3 := Lib.hid (hupd.blk (show Blk ws2_0 br2_5 41 ar2_3 from Bxr2y5_s2_0.out) (fun h => h))
          have HU3 := Lib.hid (HU2_0.out.trans hupd)
          clear hupd
          refine wpOps_nil ?_
          refine hK5 _ _ ?_
          clear hK5
          refine wp_cond_true rfl ?_
          refine wp_seq_k fun K6 hK6 => ?_
          refine wp_region_qS 1 #[true] [] ([.val (.bool true)] : List SQ) (by kernel_rfl) (by kernel_rfl) (by kernel_rfl) ?_ ?_
          · intro i o listed an wn ho hls hst hun hdep hI hpre K' hK'
            have hi : i = 0 ∨ False := slot_cases (l := [0]) rfl ho hst
            rcases hi with rfl | hi
            · obtain rfl := Option.some.inj ho
              exact hI.pureQ (by kernel_rfl) hls rfl rfl rfl (.bool true) (run_moveQ (.inr rfl) (show an.eval (.const (.bool true)) = .bool true from rfl) wn) (.val (.bool true)) rfl rfl rfl hK'
            · exact hi.elim
          · intro an w5 hI
            obtain ⟨vr4_0, hvr4_0, hsr4_0⟩ := hI.haveQ 0 _ 2 (.val (.bool true)) rfl rfl rfl rfl
            obtain rfl := hsr4_0
            have hupd := hI.upd
            have ha := hI.act [(2, .bool true)] (by simp [hvr4_0]) (by kernel_rfl)
            clear hI hvr4_0
            subst ha
            simp only [List.foldl_cons, List.foldl_nil, List.setIfInBounds_toArray, List.set_cons_zero, List.set_cons_succ]
            have Bxr0y0_4 := Lib.hid (hupd.blk (show Blk w4 br0_0 23 (numsA .u8 k) from Bxr0y0_3.out) (fun h => h))
            have Bxr2y5_4 := Lib.hid (hupd.blk (show Blk w4 br2_5 41 ar2_3 from Bxr2y5_3.out) (fun h => h))
            have HU4 := Lib.hid (HU3.out.trans hupd)
            clear hupd
            refine wpOps_nil ?_
            refine hK6 _ _ ?_
            clear hK6
            refine wp_ret ?_
            try dsimp only [Exit.then]
            try dsimp only [Exit.inBlock]
            exact bodyPost_ret (v := .bool true) (results_tmpQ (fn := Tryd.f14) (t := 2) rfl _ _ (.bool true) rfl) rfl ⟨rfl, HU4.out⟩
set_option maxHeartbeats 4000000 in
theorem signsT {k : List Int} {eP : EP} (w : World) (hT : Tw w) (hl : k.length = 32) (hd : Digs 256 k) (hk : encP eP = k) (hb : eP = eP.back) :
    Calls Tryd.prog 14 #[.agg (numsA .u8 k)] w fun e w' => e = .returned (.bool true) ∧ Upd (fun _ => False) w w' := by
  have HT := Lib.hid hT
  clear hT
  have HU := Lib.hid (Upd.refl (fun _ => False) w)
  go_enter Tryd.func14, Tryd.ntmps14
  refine wp_seq_k fun K0 hK0 => ?_
  refine wp_region_qS 2 #[true, true] [] ([.blk ptrTo 23 (fun z => z = numsA .u8 k), .val (.bool false)] : List SQ) (by kernel_rfl) (by kernel_rfl) (by kernel_rfl) ?_ ?_
  · intro i o listed an wn ho hls hst hun hdep hI hpre K' hK'
    have hi : i = 0 ∨ i = 1 ∨ False := slot_cases (l := [0, 1]) rfl ho hst
    rcases hi with rfl | rfl | hi
    · obtain rfl := Option.some.inj ho
      have hvp : an.eval (.tmp 0) = .agg (numsA .u8 k) := hI.oldQ (by kernel_rfl) rfl
      exact hI.newQ (by kernel_rfl) hls (Nat.le_refl _) (newsQ_spec (l := [0]) (by kernel_rfl) ⟨⟨_, _, rfl⟩, trivial⟩) rfl rfl rfl 23 _ (fun z => z = numsA .u8 k) (run_boxQ rfl hvp wn) rfl rfl hK'
    · obtain rfl := Option.some.inj ho
      exact hI.pureQ (by kernel_rfl) hls rfl rfl rfl (.bool false) (run_moveQ (.inr rfl) (show an.eval (.const (.bool false)) = .bool false from rfl) wn) (.val (.bool false)) rfl rfl rfl hK'
    · exact hi.elim
  · intro an w1 hI
    obtain ⟨vr0_0, hvr0_0, br0_0, zr0_0, rfl, hnr0_0, hbr0_0, hzr0_0⟩ := hI.haveQ 0 _ 1 (.blk ptrTo 23 (fun z => z = numsA .u8 k)) rfl rfl rfl rfl
    rw [hzr0_0] at hbr0_0
    clear hzr0_0
    obtain ⟨vr0_1, hvr0_1, hsr0_1⟩ := hI.haveQ 1 _ 2 (.val (.bool false)) rfl rfl rfl rfl
    obtain rfl := hsr0_1
    have hupd := hI.upd
    have ha := hI.act [(1, ptrTo br0_0), (2, .bool false)] (by simp [hvr0_0, hvr0_1]) (by kernel_rfl)
    clear hI hvr0_0 hvr0_1
    subst ha
    simp only [List.foldl_cons, List.foldl_nil, List.setIfInBounds_toArray, List.set_cons_zero, List.set_cons_succ]
    have hger0_0 := Lib.hid (Nat.le_trans HU.out.size hnr0_0)
    have Bxr0y0 := Lib.hid hbr0_0
    have HU0 := Lib.hid (HU.out.trans hupd)
    clear hupd
    refine wpOps_nil ?_
    refine hK0 _ _ ?_
    clear hK0
    refine wp_seq_k fun K1 hK1 => ?_
    refine wp_seq_k fun K2 hK2 => ?_
    refine wp_region_qS 2 #[true, true] [] ([.val (.bool true), .val (.bool false)] : List SQ) (by kernel_rfl) (by kernel_rfl) (by kernel_rfl) ?_ ?_
    · intro i o listed an wn ho hls hst hun hdep hI hpre K' hK'
      have hi : i = 0 ∨ i = 1 ∨ False := slot_cases (l := [0, 1]) rfl ho hst
      rcases hi with rfl | rfl | hi
      · obtain rfl := Option.some.inj ho
        exact hI.callQ (by kernel_rfl) hls rfl rfl rfl 23 #[] _ rfl #[] (by simp) (run_enter Tryd.func23 (by kernel_rfl) (by kernel_rfl)) (.val (.bool true)) rfl rfl ((basedL _ (HT.out.upd (HU0.out.trans hI.upd))).mono fun _ _ h => ret_val h) hK'
      · obtain rfl := Option.some.inj ho
        obtain ⟨vp, hvp, hsp⟩ := hI.haveQ 0 _ 6 (.val (.bool true)) rfl rfl rfl (hdep ⟨0, .data⟩ (by simp) rfl)
        obtain rfl := hsp
        exact hI.pureQ (by kernel_rfl) hls rfl rfl rfl (.bool false) (run_not rfl (eval_of hvp) wn) (.val (.bool false)) rfl rfl rfl hK'
      · exact hi.elim
    · intro an w2 hI
      obtain ⟨vr1_0, hvr1_0, hsr1_0⟩ := hI.haveQ 0 _ 6 (.val (.bool true)) rfl rfl rfl rfl
      obtain rfl := hsr1_0
      obtain ⟨vr1_1, hvr1_1, hsr1_1⟩ := hI.haveQ 1 _ 7 (.val (.bool false)) rfl rfl rfl rfl
      obtain rfl := hsr1_1
      have hupd := hI.upd
      have ha := hI.act [(6, .bool true), (7, .bool false)] (by simp [hvr1_0, hvr1_1]) (by kernel_rfl)
      clear hI hvr1_0 hvr1_1
      subst ha
      simp only [List.foldl_cons, List.foldl_nil, List.setIfInBounds_toArray, List.set_cons_zero, List.set_cons_succ]
      have Bxr0y0_1 := Lib.hid (hupd.blk (show Blk w1 br0_0 23 (numsA .u8 k) from Bxr0y0.out) (fun h => h))
      have HU1 := Lib.hid (HU0.out.trans hupd)
      clear hupd
      refine wpOps_nil ?_
      refine hK2 _ _ ?_
      clear hK2
      refine wp_cond_false rfl ?_
      refine wp_skip ?_
      refine hK1 _ _ ?_
      clear hK1
      refine wp_seq_k fun K3 hK3 => ?_
      refine wp_region_qS 6 #[true, true, true, true, true, true, false, false] [6, 7] ([.val (.agg (numsA .u8 k)), .like (IsCV 20 RP [some eP] (.int .i64 0)), .like (IsCV 20 RP [some eP] (.int .i64 0)), .like (IsC 20 RP [some eP]), .val (.int .i64 0), .blk ptrTo 41 (Ch 20 RP [none]), .val undef, .val undef] : List SQ) (by kernel_rfl) (by kernel_rfl) (by kernel_rfl) ?_ ?_
      · intro i o listed an wn ho hls hst hun hdep hI hpre K' hK'
        have hi : i = 0 ∨ i = 1 ∨ i = 2 ∨ i = 3 ∨ i = 4 ∨ i = 5 ∨ False := slot_cases (l := [0, 1, 2, 3, 4, 5]) rfl ho hst
        rcases hi with rfl | rfl | rfl | rfl | rfl | rfl | hi
        · obtain rfl := Option.some.inj ho
          have hvp : an.eval (.tmp 1) = ptrTo br0_0 := hI.oldQ (by kernel_rfl) rfl
          exact hI.pureQ (by kernel_rfl) hls rfl rfl rfl _ (run_loadQ rfl hvp wn (hI.upd.blk (show Blk w2 br0_0 23 (numsA .u8 k) from Bxr0y0_1.out) (fun h => h)) Tryd.underlying23 rfl sizeKey (by rw [numsA_size, hl]; omega)) (.val (.agg (numsA .u8 k))) rfl (congrArg Value.agg (extract_all _ 32 (by rw [numsA_size]; exact hl))) rfl hK'
        · obtain rfl := Option.some.inj ho
          obtain ⟨vp, hvp, hsp⟩ := hI.haveQ 0 _ 9 (.val (.agg (numsA .u8 k))) rfl rfl rfl (hdep ⟨0, .data⟩ (by simp) rfl)
          obtain rfl := hsp
          exact hI.callQ (by kernel_rfl) hls rfl rfl rfl 24 #[.tmp 9] _ rfl #[.agg (numsA .u8 k)] (by simp [eval_of hvp]) (run_enter Tryd.func24 (by kernel_rfl) (by kernel_rfl)) (.like (IsCV 20 RP [some eP] (.int .i64 0))) rfl rfl ((decodeT _ (HT.out.upd (HU1.out.trans hI.upd)) hl hd hk).mono fun _ _ h => h.sq) hK'
        · obtain rfl := Option.some.inj ho
          obtain ⟨vp, hvp, ap, rfl, hCp⟩ := hI.haveQ 1 _ 10 (.like (IsCV 20 RP [some eP] (.int .i64 0))) rfl rfl rfl (hdep ⟨1, .data⟩ (by simp) rfl)
          exact hI.pureQ (by kernel_rfl) hls rfl rfl rfl _ (run_moveQ (.inl rfl) (eval_of hvp) wn) (.like (IsCV 20 RP [some eP] (.int .i64 0))) rfl ⟨_, rfl, hCp⟩ rfl hK'
        · obtain rfl := Option.some.inj ho
          obtain ⟨vp, hvp, ap, rfl, hCp⟩ := hI.haveQ 2 _ 8 (.like (IsCV 20 RP [some eP] (.int .i64 0))) rfl rfl rfl (hdep ⟨2, .data⟩ (by simp) rfl)
          exact hI.pureQ (by kernel_rfl) hls rfl rfl rfl _ (run_extractQ rfl (eval_of hvp) rfl wn) (.like (IsC 20 RP [some eP])) rfl ⟨_, rfl, hCp⟩ rfl hK'
        · obtain rfl := Option.some.inj ho
          obtain ⟨vp, hvp, ap, rfl, hCp⟩ := hI.haveQ 2 _ 8 (.like (IsCV 20 RP [some eP] (.int .i64 0))) rfl rfl rfl (hdep ⟨2, .data⟩ (by simp) rfl)
          exact hI.pureQ (by kernel_rfl) hls rfl rfl rfl (.int .i64 0) (run_extractQ rfl (eval_of hvp) rfl wn) (.val (.int .i64 0)) rfl rfl rfl hK'
        · obtain rfl := Option.some.inj ho
          exact hI.newQ (by kernel_rfl) hls (Nat.le_refl _) (newsQ_spec (l := [5]) (by kernel_rfl) ⟨⟨_, _, rfl⟩, trivial⟩) rfl rfl rfl 41 zPt _ (run_allocQ rfl zPt_run wn) rfl zPt_p hK'
        · exact hi.elim
      · intro an w3 hI
        obtain ⟨vr2_0, hvr2_0, hsr2_0⟩ := hI.haveQ 0 _ 9 (.val (.agg (numsA .u8 k))) rfl rfl rfl rfl
        obtain rfl := hsr2_0
        obtain ⟨vr2_1, hvr2_1, ar2_1, rfl, hCr2_1⟩ := hI.haveQ 1 _ 10 (.like (IsCV 20 RP [some eP] (.int .i64 0))) rfl rfl rfl rfl
        obtain ⟨vr2_2, hvr2_2, ar2_2, rfl, hCr2_2⟩ := hI.haveQ 2 _ 8 (.like (IsCV 20 RP [some eP] (.int .i64 0))) rfl rfl rfl rfl
        obtain ⟨vr2_3, hvr2_3, ar2_3, rfl, hCr2_3⟩ := hI.haveQ 3 _ 11 (.like (IsC 20 RP [some eP])) rfl rfl rfl rfl
        obtain ⟨vr2_4, hvr2_4, hsr2_4⟩ := hI.haveQ 4 _ 12 (.val (.int .i64 0)) rfl rfl rfl rfl
        obtain rfl := hsr2_4
        obtain ⟨vr2_5, hvr2_5, br2_5, zr2_5, rfl, hnr2_5, hbr2_5, hzr2_5⟩ := hI.haveQ 5 _ 3 (.blk ptrTo 41 (Ch 20 RP [none])) rfl rfl rfl rfl
        have hupd := hI.upd
        have ha := hI.act [(9, .agg (numsA .u8 k)), (10, .tuple #[.agg ar2_1, .int .i64 0]), (8, .tuple #[.agg ar2_2, .int .i64 0]), (11, .agg ar2_3), (12, .int .i64 0), (3, ptrTo br2_5)] (by simp [hvr2_0, hvr2_1, hvr2_2, hvr2_3, hvr2_4, hvr2_5]) (by kernel_rfl)
        clear hI hvr2_0 hvr2_1 hvr2_2 hvr2_3 hvr2_4 hvr2_5
        subst ha
        simp only [List.foldl_cons, List.foldl_nil, List.setIfInBounds_toArray, List.set_cons_zero, List.set_cons_succ]
        have hner2_5_Bxr0y0_1 := Lib.hid (show br2_5 ≠ br0_0 from Nat.ne_of_gt (Nat.lt_of_lt_of_le Bxr0y0_1.out.lt hnr2_5))
        have hger2_5 := Lib.hid (Nat.le_trans HU1.out.size hnr2_5)
        have Bxr0y0_2 := Lib.hid (hupd.blk (show Blk w2 br0_0 23 (numsA .u8 k) from Bxr0y0_1.out) (fun h => h))
        have Bxr2y5 := Lib.hid hbr2_5
        have HU2 := Lib.hid (HU1.out.trans hupd)
        clear hupd
        refine wpOps_storeQ 6 rfl rfl rfl 41 (.tmp 3) (.tmp 11) rfl br2_5 0 20 rfl ar2_3 rfl 41 zr2_5 Bxr2y5.out szPt hCr2_3.size (by rw [hzr2_5.size]; exact Nat.le_of_ble_eq_true rfl) hCr2_3.one' ?_
        intro ws2_0 hs2_0 hus2_0
        rw [splice_all _ _ 20 hzr2_5.size hCr2_3.size] at hs2_0
        have Bxr0y0_s2_0 := Lib.hid (hus2_0.blk Bxr0y0_2.out (fun e => hner2_5_Bxr0y0_1.out e.symm))
        have Bxr2y5_s2_0 := Lib.hid hs2_0
        have HU2_0 := Lib.hid (HU2.out.step hus2_0 (fun i hi h => absurd hi (Nat.not_lt.2 (h.symm ▸ hger2_5.out))))
        clear hs2_0 hus2_0
        refine wpOps_pureQ 7 rfl rfl 4 rfl (.int .i64 0) (run_moveQ (x := .tmp 12) (v := .int .i64 0) (.inr rfl) rfl _) ?_
        simp only [List.setIfInBounds_toArray, List.set_cons_zero, List.set_cons_succ]
        refine wpOps_nil ?_
        refine hK3 _ _ ?_
        clear hK3
        refine wp_seq_k fun K4 hK4 => ?_
        refine wp_seq_k fun K5 hK5 => ?_
        refine wp_region_qS 2 #[true, true] [] ([.val (.int .i64 0), .val (.bool false)] : List SQ) (by kernel_rfl) (by kernel_rfl) (by kernel_rfl) ?_ ?_
        · intro i o listed an wn ho hls hst hun hdep hI hpre K' hK'
          have hi : i = 0 ∨ i = 1 ∨ False := slot_cases (l := [0, 1]) rfl ho hst
          rcases hi with rfl | rfl | hi
          · obtain rfl := Option.some.inj ho
            have hvp : an.eval (.tmp 4) = .int .i64 0 := hI.oldQ (by kernel_rfl) rfl
            exact hI.pureQ (by kernel_rfl) hls rfl rfl rfl (.int .i64 0) (run_moveQ (.inl rfl) hvp wn) (.val (.int .i64 0)) rfl rfl rfl hK'
          · obtain rfl := Option.some.inj ho
            obtain ⟨vp, hvp, hsp⟩ := hI.haveQ 0 _ 13 (.val (.int .i64 0)) rfl rfl rfl (hdep ⟨0, .data⟩ (by simp) rfl)
            obtain rfl := hsp
            exact hI.pureQ (by kernel_rfl) hls rfl rfl rfl (.bool false) (run_neq rfl (eval_of hvp) rfl (ne_of_eqB (show decide ((0 : Int) = 0) = true by decide)) wn) (.val (.bool false)) rfl rfl rfl hK'
          · exact hi.elim
        · intro an w4 hI
          obtain ⟨vr3_0, hvr3_0, hsr3_0⟩ := hI.haveQ 0 _ 13 (.val (.int .i64 0)) rfl rfl rfl rfl
          obtain rfl := hsr3_0
          obtain ⟨vr3_1, hvr3_1, hsr3_1⟩ := hI.haveQ 1 _ 14 (.val (.bool false)) rfl rfl rfl rfl
          obtain rfl := hsr3_1
          have hupd := hI.upd
          have ha := hI.act [(13, .int .i64 0), (14, .bool false)] (by simp [hvr3_0, hvr3_1]) (by kernel_rfl)
          clear hI hvr3_0 hvr3_1
          subst ha
          simp only [List.foldl_cons, List.foldl_nil, List.setIfInBounds_toArray, List.set_cons_zero, List.set_cons_succ]
          have Bxr0y0_3 := Lib.hid (hupd.blk (show Blk ws2_0 br0_0 23 (numsA .u8 k) from Bxr0y0_s2_0.out) (fun h => h))
          have Bxr2y5_3 := Lib.hid (hupd.blk (show Blk ws2_0 br2_5 41 ar2_3 from Bxr2y5_s2_0.out) (fun h => h))
          have HU3 := Lib.hid (HU2_0.out.trans hupd)
          clear hupd
          refine wpOps_nil ?_
          refine hK5 _ _ ?_
          clear hK5
          refine wp_cond_false rfl ?_
          refine wp_skip ?_
          refine hK4 _ _ ?_
          clear hK4
          refine wp_seq_k fun K6 hK6 => ?_
          refine wp_region_qS 4 #[true, true, true, true, false] [4] ([.val (.agg ar2_3), .like (IsC 20 RP [some eP.back]), .val (.agg (numsA .u8 (encP eP.back))), .blk ptrTo 23 (fun z => z = numsA .u8 zeroKL), .val undef] : List SQ) (by kernel_rfl) (by kernel_rfl) (by kernel_rfl) ?_ ?_
          · intro i o listed an wn ho hls hst hun hdep hI hpre K' hK'
            have hi : i = 0 ∨ i = 1 ∨ i = 2 ∨ i = 3 ∨ False := slot_cases (l := [0, 1, 2, 3]) rfl ho hst
            rcases hi with rfl | rfl | rfl | rfl | hi
            · obtain rfl := Option.some.inj ho
              have hvp : an.eval (.tmp 3) = ptrTo br2_5 := hI.oldQ (by kernel_rfl) rfl
              exact hI.pureQ (by kernel_rfl) hls rfl rfl rfl _ (run_loadQ rfl hvp wn (hI.upd.blk (show Blk w4 br2_5 41 ar2_3 from Bxr2y5_3.out) (fun h => h)) Tryd.underlying41 rfl szPt (by rw [hCr2_3.size]; exact Nat.le_of_ble_eq_true rfl)) (.val (.agg ar2_3)) rfl (congrArg Value.agg (extract_all _ 20 hCr2_3.size)) rfl hK'
            · obtain rfl := Option.some.inj ho
              obtain ⟨vp, hvp, hsp⟩ := hI.haveQ 0 _ 15 (.val (.agg ar2_3)) rfl rfl rfl (hdep ⟨0, .data⟩ (by simp) rfl)
              obtain rfl := hsp
              exact hI.callQ (by kernel_rfl) hls rfl rfl rfl 32 #[.tmp 15] _ rfl #[.agg ar2_3] (by simp [eval_of hvp]) (run_enter Tryd.func32 (by kernel_rfl) (by kernel_rfl)) (.like (IsC 20 RP [some eP.back])) rfl rfl ((negR _ (HT.out.upd (HU3.out.trans hI.upd)) hCr2_3).mono fun _ _ h => h.sq) hK'
            · obtain rfl := Option.some.inj ho
              obtain ⟨vp, hvp, ap, rfl, hCp⟩ := hI.haveQ 1 _ 16 (.like (IsC 20 RP [some eP.back])) rfl rfl rfl (hdep ⟨1, .data⟩ (by simp) rfl)
              exact hI.callQ (by kernel_rfl) hls rfl rfl rfl 26 #[.tmp 16] _ rfl #[.agg ap] (by simp [eval_of hvp]) (run_enter Tryd.func26 (by kernel_rfl) (by kernel_rfl)) (.val (.agg (numsA .u8 (encP eP.back)))) rfl rfl ((encodeR _ hCp).mono fun _ _ h => ret_val h) hK'
            · obtain rfl := Option.some.inj ho
              exact hI.newQ (by kernel_rfl) hls (Nat.le_refl _) (newsQ_spec (l := [3]) (by kernel_rfl) ⟨⟨_, _, rfl⟩, trivial⟩) rfl rfl rfl 23 _ (fun z => z = numsA .u8 zeroKL) (run_allocQ rfl zeroK_run wn) rfl rfl hK'
            · exact hi.elim
          · intro an w5 hI
            obtain ⟨vr4_0, hvr4_0, hsr4_0⟩ := hI.haveQ 0 _ 15 (.val (.agg ar2_3)) rfl rfl rfl rfl
            obtain rfl := hsr4_0
            obtain ⟨vr4_1, hvr4_1, ar4_1, rfl, hCr4_1⟩ := hI.haveQ 1 _ 16 (.like (IsC 20 RP [some eP.back])) rfl rfl rfl rfl
            obtain ⟨vr4_2, hvr4_2, hsr4_2⟩ := hI.haveQ 2 _ 17 (.val (.agg (numsA .u8 (encP eP.back)))) rfl rfl rfl rfl
            obtain rfl := hsr4_2
            obtain ⟨vr4_3, hvr4_3, br4_3, zr4_3, rfl, hnr4_3, hbr4_3, hzr4_3⟩ := hI.haveQ 3 _ 5 (.blk ptrTo 23 (fun z => z = numsA .u8 zeroKL)) rfl rfl rfl rfl
            rw [hzr4_3] at hbr4_3
            clear hzr4_3
            have hupd := hI.upd
            have ha := hI.act [(15, .agg ar2_3), (16, .agg ar4_1), (17, .agg (numsA .u8 (encP eP.back))), (5, ptrTo br4_3)] (by simp [hvr4_0, hvr4_1, hvr4_2, hvr4_3]) (by kernel_rfl)
            clear hI hvr4_0 hvr4_1 hvr4_2 hvr4_3
            subst ha
            simp only [List.foldl_cons, List.foldl_nil, List.setIfInBounds_toArray, List.set_cons_zero, List.set_cons_succ]
            have hner4_3_Bxr0y0_3 := Lib.hid (show br4_3 ≠ br0_0 from Nat.ne_of_gt (Nat.lt_of_lt_of_le Bxr0y0_3.out.lt hnr4_3))
            have hner4_3_Bxr2y5_3 := Lib.hid (show br4_3 ≠ br2_5 from Nat.ne_of_gt (Nat.lt_of_lt_of_le Bxr2y5_3.out.lt hnr4_3))
            have hger4_3 := Lib.hid (Nat.le_trans HU3.out.size hnr4_3)
            have Bxr0y0_4 := Lib.hid (hupd.blk (show Blk w4 br0_0 23 (numsA .u8 k) from Bxr0y0_3.out) (fun h => h))
            have Bxr2y5_4 := Lib.hid (hupd.blk (show Blk w4 br2_5 41 ar2_3 from Bxr2y5_3.out) (fun h => h))
            have Bxr4y3 := Lib.hid hbr4_3
            have HU4 := Lib.hid (HU3.out.trans hupd)
            clear hupd
            refine wpOps_storeQ 4 rfl rfl rfl 23 (.tmp 5) (.tmp 17) rfl br4_3 0 32 rfl (numsA .u8 (encP eP.back)) rfl 23 (numsA .u8 zeroKL) Bxr4y3.out sizeKey (by rw [numsA_size]; exact encP_length _) (by rw [(show (numsA _ _).size = 32 by rw [numsA_size]; exact zeroKL_length)]; exact Nat.le_of_ble_eq_true rfl) (numsA_one _ _) ?_
            intro ws4_0 hs4_0 hus4_0
            rw [splice_all _ _ 32 (show (numsA _ _).size = 32 by rw [numsA_size]; exact zeroKL_length) (by rw [numsA_size]; exact encP_length _)] at hs4_0
            have Bxr0y0_s4_0 := Lib.hid (hus4_0.blk Bxr0y0_4.out (fun e => hner4_3_Bxr0y0_3.out e.symm))
            have Bxr2y5_s4_0 := Lib.hid (hus4_0.blk Bxr2y5_4.out (fun e => hner4_3_Bxr2y5_3.out e.symm))
            have Bxr4y3_s4_0 := Lib.hid hs4_0
            have HU4_0 := Lib.hid (HU4.out.step hus4_0 (fun i hi h => absurd hi (Nat.not_lt.2 (h.symm ▸ hger4_3.out))))
            clear hs4_0 hus4_0
            refine wpOps_nil ?_
            refine hK6 _ _ ?_
            clear hK6
            refine wp_seq_k fun K7 hK7 => ?_
            refine wp_seq_k fun K8 hK8 => ?_
            refine wp_region_q #[true, true, true, true] ([.val (.agg ar2_3), .val (.agg ar2_3), .like (IsC 20 RP [some eP.back]), .val (.bool true)] : List SQ) (by kernel_rfl) (by kernel_rfl) (by kernel_rfl) ?_ ?_
            · intro i o listed an wn ho hls hst hun hdep hI K' hK'
              have hi : i = 0 ∨ i = 1 ∨ i = 2 ∨ i = 3 ∨ False := slot_cases (l := [0, 1, 2, 3]) rfl ho hst
              rcases hi with rfl | rfl | rfl | rfl | hi
              · obtain rfl := Option.some.inj ho
                have hvp : an.eval (.tmp 3) = ptrTo br2_5 := hI.oldQ (by kernel_rfl) rfl
                exact hI.pureQ (by kernel_rfl) hls rfl rfl rfl _ (run_loadQ rfl hvp wn (hI.upd.blk (show Blk ws4_0.drew br2_5 41 ar2_3 from Bxr2y5_s4_0.out) (fun h => h)) Tryd.underlying41 rfl szPt (by rw [hCr2_3.size]; exact Nat.le_of_ble_eq_true rfl)) (.val (.agg ar2_3)) rfl (congrArg Value.agg (extract_all _ 20 hCr2_3.size)) rfl hK'
              · obtain rfl := Option.some.inj ho
                have hvp : an.eval (.tmp 3) = ptrTo br2_5 := hI.oldQ (by kernel_rfl) rfl
                exact hI.pureQ (by kernel_rfl) hls rfl rfl rfl _ (run_loadQ rfl hvp wn (hI.upd.blk (show Blk ws4_0.drew br2_5 41 ar2_3 from Bxr2y5_s4_0.out) (fun h => h)) Tryd.underlying41 rfl szPt (by rw [hCr2_3.size]; exact Nat.le_of_ble_eq_true rfl)) (.val (.agg ar2_3)) rfl (congrArg Value.agg (extract_all _ 20 hCr2_3.size)) rfl hK'
              · obtain rfl := Option.some.inj ho
                obtain ⟨vp, hvp, hsp⟩ := hI.haveQ 1 _ 19 (.val (.agg ar2_3)) rfl rfl rfl (hdep ⟨1, .data⟩ (by simp) rfl)
                obtain rfl := hsp
                exact hI.callQ (by kernel_rfl) hls rfl rfl rfl 32 #[.tmp 19] _ rfl #[.agg ar2_3] (by simp [eval_of hvp]) (run_enter Tryd.func32 (by kernel_rfl) (by kernel_rfl)) (.like (IsC 20 RP [some eP.back])) rfl rfl ((negR _ (HT.out.upd (HU4_0.out.drew.trans hI.upd)) hCr2_3).mono fun _ _ h => h.sq) hK'
              · obtain rfl := Option.some.inj ho
                obtain ⟨vp, hvp, hsp⟩ := hI.haveQ 0 _ 18 (.val (.agg ar2_3)) rfl rfl rfl (hdep ⟨0, .data⟩ (by simp) rfl)
                obtain rfl := hsp
                obtain ⟨vq, hvq, aq, rfl, hCq⟩ := hI.haveQ 2 _ 20 (.like (IsC 20 RP [some eP.back])) rfl rfl rfl (hdep ⟨2, .data⟩ (by simp) rfl)
                exact hI.callQ (by kernel_rfl) hls rfl rfl rfl 31 #[.tmp 18, .tmp 20] _ rfl #[.agg ar2_3, .agg aq] (by simp [eval_of hvp, eval_of hvq]) (run_enter Tryd.func31 (by kernel_rfl) (by kernel_rfl)) (.val (.bool true)) rfl rfl ((equalR _ hCr2_3 hCq).mono fun _ _ h => ret_val (ret_b h (edEq_t hb))) hK'
              · exact hi.elim
            · intro fuel an w6 hf hI
              obtain ⟨vr5_0, hvr5_0, hsr5_0⟩ := hI.haveQ 0 _ 18 (.val (.agg ar2_3)) rfl rfl rfl rfl
              obtain rfl := hsr5_0
              obtain ⟨vr5_1, hvr5_1, hsr5_1⟩ := hI.haveQ 1 _ 19 (.val (.agg ar2_3)) rfl rfl rfl rfl
              obtain rfl := hsr5_1
              obtain ⟨vr5_2, hvr5_2, ar5_2, rfl, hCr5_2⟩ := hI.haveQ 2 _ 20 (.like (IsC 20 RP [some eP.back])) rfl rfl rfl rfl
              obtain ⟨vr5_3, hvr5_3, hsr5_3⟩ := hI.haveQ 3 _ 21 (.val (.bool true)) rfl rfl rfl rfl
              obtain rfl := hsr5_3
              have hupd := hI.upd
              have ha := hI.act [(18, .agg ar2_3), (19, .agg ar2_3), (20, .agg ar5_2), (21, .bool true)] (by simp [hvr5_0, hvr5_1, hvr5_2, hvr5_3]) (by kernel_rfl)
              clear hI hvr5_0 hvr5_1 hvr5_2 hvr5_3
              subst ha
              simp only [List.foldl_cons, List.foldl_nil, List.setIfInBounds_toArray, List.set_cons_zero, List.set_cons_succ]
              have Bxr0y0_5 := Lib.hid (hupd.blk (show Blk ws4_0.drew br0_0 23 (numsA .u8 k) from Bxr0y0_s4_0.out) (fun h => h))
              have Bxr2y5_5 := Lib.hid (hupd.blk (show Blk ws4_0.drew br2_5 41 ar2_3 from Bxr2y5_s4_0.out) (fun h => h))
              have Bxr4y3_5 := Lib.hid (hupd.blk (show Blk ws4_0.drew br4_3 23 (numsA .u8 (encP eP.back)) from Bxr4y3_s4_0.out) (fun h => h))
              have HU5 := Lib.hid (HU4_0.out.drew.trans hupd)
              clear hupd
              refine wpAny_done (by kernel_rfl) ?_ _
              refine hK8 _ _ ?_
              clear hK8
              refine wp_cond_true rfl ?_
              refine wp_seq_k fun K9 hK9 => ?_
              refine wp_region_qS 9 #[true, true, true, true, true, true, true, true, true] [] ([.val (.agg (numsA .u8 (encP eP.back))), .val (.agg (numsA .u8 k)), .val (.bool true), .val (.bool true), .val (.pointer (some ⟨br0_0, 0 + 31, none⟩)), .val (.int .u8 (k.getD 31 0)), .val (.bool true), .val (.bool true), .val (.bool true)] : List SQ) (by kernel_rfl) (by kernel_rfl) (by kernel_rfl) ?_ ?_
              · intro i o listed an wn ho hls hst hun hdep hI hpre K' hK'
                have hi : i = 0 ∨ i = 1 ∨ i = 2 ∨ i = 3 ∨ i = 4 ∨ i = 5 ∨ i = 6 ∨ i = 7 ∨ i = 8 ∨ False := slot_cases (l := [0, 1, 2, 3, 4, 5, 6, 7, 8]) rfl ho hst
                rcases hi with rfl | rfl | rfl | rfl | rfl | rfl | rfl | rfl | rfl | hi
                · obtain rfl := Option.some.inj ho
                  have hvp : an.eval (.tmp 5) = ptrTo br4_3 := hI.oldQ (by kernel_rfl) rfl
                  exact hI.pureQ (by kernel_rfl) hls rfl rfl rfl _ (run_loadQ rfl hvp wn (hI.upd.blk (show Blk w6 br4_3 23 (numsA .u8 (encP eP.back)) from Bxr4y3_5.out) (fun h => h)) Tryd.underlying23 rfl sizeKey (by rw [numsA_size, encP_length _]; omega)) (.val (.agg (numsA .u8 (encP eP.back)))) rfl (congrArg Value.agg (extract_all _ 32 (by rw [numsA_size]; exact encP_length _))) rfl hK'
                · obtain rfl := Option.some.inj ho
                  have hvp : an.eval (.tmp 1) = ptrTo br0_0 := hI.oldQ (by kernel_rfl) rfl
                  exact hI.pureQ (by kernel_rfl) hls rfl rfl rfl _ (run_loadQ rfl hvp wn (hI.upd.blk (show Blk w6 br0_0 23 (numsA .u8 k) from Bxr0y0_5.out) (fun h => h)) Tryd.underlying23 rfl sizeKey (by rw [numsA_size, hl]; omega)) (.val (.agg (numsA .u8 k))) rfl (congrArg Value.agg (extract_all _ 32 (by rw [numsA_size]; exact hl))) rfl hK'
                · obtain rfl := Option.some.inj ho
                  obtain ⟨vp, hvp, hsp⟩ := hI.haveQ 0 _ 22 (.val (.agg (numsA .u8 (encP eP.back)))) rfl rfl rfl (hdep ⟨0, .data⟩ (by simp) rfl)
                  obtain rfl := hsp
                  obtain ⟨vq, hvq, hsq⟩ := hI.haveQ 1 _ 23 (.val (.agg (numsA .u8 k))) rfl rfl rfl (hdep ⟨1, .data⟩ (by simp) rfl)
                  obtain rfl := hsq
                  exact hI.pureQ (by kernel_rfl) hls rfl rfl rfl (.bool true) (run_eqlK (b := true) rfl (eval_of hvp) (eval_of hvq) (encP_length _) hl (decide_eq_true (by rw [← hb]; exact hk)) wn) (.val (.bool true)) rfl rfl rfl hK'
                · obtain rfl := Option.some.inj ho
                  obtain ⟨vp, hvp, hsp⟩ := hI.haveQ 2 _ 24 (.val (.bool true)) rfl rfl rfl (hdep ⟨2, .data⟩ (by simp) rfl)
                  obtain rfl := hsp
                  exact hI.pureQ (by kernel_rfl) hls rfl rfl rfl (.bool true) (run_moveQ (.inl rfl) (eval_of hvp) wn) (.val (.bool true)) rfl rfl rfl hK'
                · obtain rfl := Option.some.inj ho
                  obtain ⟨vg, hvg, hsg⟩ := hI.haveQ 3 _ 25 (.val (.bool true)) rfl rfl rfl (hdep ⟨3, .guard⟩ (by simp) rfl)
                  obtain rfl := hsg
                  have hvp : an.eval (.tmp 1) = ptrTo br0_0 := hI.oldQ (by kernel_rfl) rfl
                  exact hI.pureQ (by kernel_rfl) hls rfl (wanted_of rfl rfl rfl hvg) rfl (.pointer (some ⟨br0_0, 0 + 31, none⟩)) (run_adr (off := 0) (i := 31) rfl Tryd.underlying23 size5 hvp rfl (by omega) wn) (.val (.pointer (some ⟨br0_0, 0 + 31, none⟩))) rfl rfl rfl hK'
                · obtain rfl := Option.some.inj ho
                  obtain ⟨vg, hvg, hsg⟩ := hI.haveQ 3 _ 25 (.val (.bool true)) rfl rfl rfl (hdep ⟨3, .guard⟩ (by simp) rfl)
                  obtain rfl := hsg
                  obtain ⟨vp, hvp, hsp⟩ := hI.haveQ 4 _ 26 (.val (.pointer (some ⟨br0_0, 0 + 31, none⟩))) rfl rfl rfl (hdep ⟨4, .data⟩ (by simp) rfl)
                  obtain rfl := hsp
                  exact hI.pureQ (by kernel_rfl) hls rfl (wanted_of rfl rfl rfl hvg) rfl (.int .u8 (k.getD 31 0)) (run_cellQ rfl Tryd.underlying5 (eval_of hvp) wn (hI.upd.blk (show Blk w6 br0_0 23 (numsA .u8 k) from Bxr0y0_5.out) (fun h => h)) (by rw [Nat.zero_add]; exact numsA_get _ _ _ (by rw [hl]; omega))) (.val (.int .u8 (k.getD 31 0))) rfl rfl rfl hK'
                · obtain rfl := Option.some.inj ho
                  obtain ⟨vg, hvg, hsg⟩ := hI.haveQ 3 _ 25 (.val (.bool true)) rfl rfl rfl (hdep ⟨3, .guard⟩ (by simp) rfl)
                  obtain rfl := hsg
                  obtain ⟨vp, hvp, hsp⟩ := hI.haveQ 5 _ 27 (.val (.int .u8 (k.getD 31 0))) rfl rfl rfl (hdep ⟨5, .data⟩ (by simp) rfl)
                  obtain rfl := hsp
                  exact hI.pureQ (by kernel_rfl) hls rfl (wanted_of rfl rfl rfl hvg) rfl (.bool true) (run_lss rfl (eval_of hvp) rfl (decide_eq_true (by rw [← hk]; exact back_high hb)) wn) (.val (.bool true)) rfl rfl rfl hK'
                · obtain rfl := Option.some.inj ho
                  obtain ⟨vp, hvp, hsp⟩ := hI.haveQ 3 _ 25 (.val (.bool true)) rfl rfl rfl (hdep ⟨3, .data⟩ (by simp) rfl)
                  obtain rfl := hsp
                  obtain ⟨vq, hvq, hsq⟩ := hI.haveQ 6 _ 28 (.val (.bool true)) rfl rfl rfl (hdep ⟨6, .data⟩ (by simp) rfl)
                  obtain rfl := hsq
                  exact hI.pureQ (by kernel_rfl) hls rfl rfl rfl (.bool true) (run_pickT rfl (eval_of hvp) (eval_of hvq) wn) (.val (.bool true)) rfl rfl rfl hK'
                · obtain rfl := Option.some.inj ho
                  obtain ⟨vp, hvp, hsp⟩ := hI.haveQ 7 _ 29 (.val (.bool true)) rfl rfl rfl (hdep ⟨7, .data⟩ (by simp) rfl)
                  obtain rfl := hsp
                  exact hI.pureQ (by kernel_rfl) hls rfl rfl rfl (.bool true) (run_moveQ (.inr rfl) (eval_of hvp) wn) (.val (.bool true)) rfl rfl rfl hK'
                · exact hi.elim
              · intro an w7 hI
                obtain ⟨vr6_0, hvr6_0, hsr6_0⟩ := hI.haveQ 0 _ 22 (.val (.agg (numsA .u8 (encP eP.back)))) rfl rfl rfl rfl
                obtain rfl := hsr6_0
                obtain ⟨vr6_1, hvr6_1, hsr6_1⟩ := hI.haveQ 1 _ 23 (.val (.agg (numsA .u8 k))) rfl rfl rfl rfl
                obtain rfl := hsr6_1
                obtain ⟨vr6_2, hvr6_2, hsr6_2⟩ := hI.haveQ 2 _ 24 (.val (.bool true)) rfl rfl rfl rfl
                obtain rfl := hsr6_2
                obtain ⟨vr6_3, hvr6_3, hsr6_3⟩ := hI.haveQ 3 _ 25 (.val (.bool true)) rfl rfl rfl rfl
                obtain rfl := hsr6_3
                obtain ⟨vr6_4, hvr6_4, hsr6_4⟩ := hI.haveQ 4 _ 26 (.val (.pointer (some ⟨br0_0, 0 + 31, none⟩))) rfl rfl rfl rfl
                obtain rfl := hsr6_4
                obtain ⟨vr6_5, hvr6_5, hsr6_5⟩ := hI.haveQ 5 _ 27 (.val (.int .u8 (k.getD 31 0))) rfl rfl rfl rfl
                obtain rfl := hsr6_5
                obtain ⟨vr6_6, hvr6_6, hsr6_6⟩ := hI.haveQ 6 _ 28 (.val (.bool true)) rfl rfl rfl rfl
                obtain rfl := hsr6_6
                obtain ⟨vr6_7, hvr6_7, hsr6_7⟩ := hI.haveQ 7 _ 29 (.val (.bool true)) rfl rfl rfl rfl
                obtain rfl := hsr6_7
                obtain ⟨vr6_8, hvr6_8, hsr6_8⟩ := hI.haveQ 8 _ 2 (.val (.bool true)) rfl rfl rfl rfl
                obtain rfl := hsr6_8
                have hupd := hI.upd
                have ha := hI.act [(22, .agg (numsA .u8 (encP eP.back))), (23, .agg (numsA .u8 k)), (24, .bool true), (25, .bool true), (26, .pointer (some ⟨br0_0, 0 + 31, none⟩)), (27, .int .u8 (k.getD 31 0)), (28, .bool true), (29, .bool true), (2, .bool true)] (by simp [hvr6_0, hvr6_1, hvr6_2, hvr6_3, hvr6_4, hvr6_5, hvr6_6, hvr6_7, hvr6_8]) (by kernel_rfl)
                clear hI hvr6_0 hvr6_1 hvr6_2 hvr6_3 hvr6_4 hvr6_5 hvr6_6 hvr6_7 hvr6_8
                subst ha
                simp only [List.foldl_cons, List.foldl_nil, List.setIfInBounds_toArray, List.set_cons_zero, List.set_cons_succ]
                have Bxr0y0_6 := Lib.hid (hupd.blk (show Blk w6 br0_0 23 (numsA .u8 k) from Bxr0y0_5.out) (fun h => h))
                have Bxr2y5_6 := Lib.hid (hupd.blk (show Blk w6 br2_5 41 ar2_3 from Bxr2y5_5.out) (fun h => h))
                have Bxr4y3_6 := Lib.hid (hupd.blk (show Blk w6 br4_3 23 (numsA .u8 (encP eP.back)) from Bxr4y3_5.out) (fun h => h))
                have HU6 := Lib.hid (HU5.out.trans hupd)
                clear hupd
                refine wpOps_nil ?_
                refine hK9 _ _ ?_
                clear hK9
                refine wp_ret ?_
                try dsimp only [Exit.then]
                try dsimp only [Exit.inBlock]
                exact bodyPost_ret (v := .bool true) (results_tmpQ (fn := Tryd.f14) (t := 2) rfl _ _ (.bool true) rfl) rfl ⟨rfl, HU6.out⟩
set_option maxHeartbeats 4000000 in
theorem signsF {k : List Int} {eP : EP} (w : World) (hT : Tw w) (hl : k.length = 32) (hd : Digs 256 k) (hk : encP eP = k) (hb : ¬ eP = eP.back) :
    Calls Tryd.prog 14 #[.agg (numsA .u8 k)] w fun e w' => e = .returned (.bool true) ∧ Upd (fun _ => False) w w' := by
  have HT := Lib.hid hT
  clear hT
  have HU := Lib.hid (Upd.refl (fun _ => False) w)
  go_enter Tryd.func14, Tryd.ntmps14
  refine wp_seq_k fun K0 hK0 => ?_
  refine wp_region_qS 2 #[true, true] [] ([.blk ptrTo 23 (fun z => z = numsA .u8 k), .val (.bool false)] : List SQ) (by kernel_rfl) (by kernel_rfl) (by kernel_rfl) ?_ ?_
  · intro i o listed an wn ho hls hst hun hdep hI hpre K' hK'
    have hi : i = 0 ∨ i = 1 ∨ False := slot_cases (l := [0, 1]) rfl ho hst
    rcases hi with rfl | rfl | hi
    · obtain rfl := Option.some.inj ho
      have hvp : an.eval (.tmp 0) = .agg (numsA .u8 k) := hI.oldQ (by kernel_rfl) rfl
      exact hI.newQ (by kernel_rfl) hls (Nat.le_refl _) (newsQ_spec (l := [0]) (by kernel_rfl) ⟨⟨_, _, rfl⟩, trivial⟩) rfl rfl rfl 23 _ (fun z => z = numsA .u8 k) (run_boxQ rfl hvp wn) rfl rfl hK'
    · obtain rfl := Option.some.inj ho
      exact hI.pureQ (by kernel_rfl) hls rfl rfl rfl (.bool false) (run_moveQ (.inr rfl) (show an.eval (.const (.bool false)) = .bool false from rfl) wn) (.val (.bool false)) rfl rfl rfl hK'
    · exact hi.elim
  · intro an w1 hI
    obtain ⟨vr0_0, hvr0_0, br0_0, zr0_0, rfl, hnr0_0, hbr0_0, hzr0_0⟩ := hI.haveQ 0 _ 1 (.blk ptrTo 23 (fun z => z = numsA .u8 k)) rfl rfl rfl rfl
    rw [hzr0_0] at hbr0_0
    clear hzr0_0
    obtain ⟨vr0_1, hvr0_1, hsr0_1⟩ := hI.haveQ 1 _ 2 (.val (.bool false)) rfl rfl rfl rfl
    obtain rfl := hsr0_1
    have hupd := hI.upd
    have ha := hI.act [(1, ptrTo br0_0), (2, .bool false)] (by simp [hvr0_0, hvr0_1]) (by kernel_rfl)
    clear hI hvr0_0 hvr0_1
    subst ha
    simp only [List.foldl_cons, List.foldl_nil, List.setIfInBounds_toArray, List.set_cons_zero, List.set_cons_succ]
    have hger0_0 := Lib.hid (Nat.le_trans HU.out.size hnr0_0)
    have Bxr0y0 := Lib.hid hbr0_0
    have HU0 := Lib.hid (HU.out.trans hupd)
    clear hupd
    refine wpOps_nil ?_
    refine hK0 _ _ ?_
    clear hK0
    refine wp_seq_k fun K1 hK1 => ?_
    refine wp_seq_k fun K2 hK2 => ?_
    refine wp_region_qS 2 #[true, true] [] ([.val (.bool true), .val (.bool false)] : List SQ) (by kernel_rfl) (by kernel_rfl) (by kernel_rfl) ?_ ?_
    · intro i o listed an wn ho hls hst hun hdep hI hpre K' hK'
      have hi : i = 0 ∨ i = 1 ∨ False := slot_cases (l := [0, 1]) rfl ho hst
      rcases hi with rfl | rfl | hi
      · obtain rfl := Option.some.inj ho
        exact hI.callQ (by kernel_rfl) hls rfl rfl rfl 23 #[] _ rfl #[] (by simp) (run_enter Tryd.func23 (by kernel_rfl) (by kernel_rfl)) (.val (.bool true)) rfl rfl ((basedL _ (HT.out.upd (HU0.out.trans hI.upd))).mono fun _ _ h => ret_val h) hK'
      · obtain rfl := Option.some.inj ho
        obtain ⟨vp, hvp, hsp⟩ := hI.haveQ 0 _ 6 (.val (.bool true)) rfl rfl rfl (hdep ⟨0, .data⟩ (by simp) rfl)
        obtain rfl := hsp
        exact hI.pureQ (by kernel_rfl) hls rfl rfl rfl (.bool false) (run_not rfl (eval_of hvp) wn) (.val (.bool false)) rfl rfl rfl hK'
      · exact hi.elim
    · intro an w2 hI
      obtain ⟨vr1_0, hvr1_0, hsr1_0⟩ := hI.haveQ 0 _ 6 (.val (.bool true)) rfl rfl rfl rfl
      obtain rfl := hsr1_0
      obtain ⟨vr1_1, hvr1_1, hsr1_1⟩ := hI.haveQ 1 _ 7 (.val (.bool false)) rfl rfl rfl rfl
      obtain rfl := hsr1_1
      have hupd := hI.upd
      have ha := hI.act [(6, .bool true), (7, .bool false)] (by simp [hvr1_0, hvr1_1]) (by kernel_rfl)
      clear hI hvr1_0 hvr1_1
      subst ha
      simp only [List.foldl_cons, List.foldl_nil, List.setIfInBounds_toArray, List.set_cons_zero, List.set_cons_succ]
      have Bxr0y0_1 := Lib.hid (hupd.blk (show Blk w1 br0_0 23 (numsA .u8 k) from Bxr0y0.out) (fun h => h))
      have HU1 := Lib.hid (HU0.out.trans hupd)
      clear hupd
      refine wpOps_nil ?_
      refine hK2 _ _ ?_
      clear hK2
      refine wp_cond_false rfl ?_
      refine wp_skip ?_
      refine hK1 _ _ ?_
      clear hK1
      refine wp_seq_k fun K3 hK3 => ?_
      refine wp_region_qS 6 #[true, true, true, true, true, true, false, false] [6, 7] ([.val (.agg (numsA .u8 k)), .like (IsCV 20 RP [some eP] (.int .i64 0)), .like (IsCV 20 RP [some eP] (.int .i64 0)), .like (IsC 20 RP [some eP]), .val (.int .i64 0), .blk ptrTo 41 (Ch 20 RP [none]), .val undef, .val undef] : List SQ) (by kernel_rfl) (by kernel_rfl) (by kernel_rfl) ?_ ?_
      · intro i o listed an wn ho hls hst hun hdep hI hpre K' hK'
        have hi : i = 0 ∨ i = 1 ∨ i = 2 ∨ i = 3 ∨ i = 4 ∨ i = 5 ∨ False := slot_cases (l := [0, 1, 2, 3, 4, 5]) rfl ho hst
        rcases hi with rfl | rfl | rfl | rfl | rfl | rfl | hi
        · obtain rfl := Option.some.inj ho
          have hvp : an.eval (.tmp 1) = ptrTo br0_0 := hI.oldQ (by kernel_rfl) rfl
          exact hI.pureQ (by kernel_rfl) hls rfl rfl rfl _ (run_loadQ rfl hvp wn (hI.upd.blk (show Blk w2 br0_0 23 (numsA .u8 k) from Bxr0y0_1.out) (fun h => h)) Tryd.underlying23 rfl sizeKey (by rw [numsA_size, hl]; omega)) (.val (.agg (numsA .u8 k))) rfl (congrArg Value.agg (extract_all _ 32 (by rw [numsA_size]; exact hl))) rfl hK'
        · obtain rfl := Option.some.inj ho
          obtain ⟨vp, hvp, hsp⟩ := hI.haveQ 0 _ 9 (.val (.agg (numsA .u8 k))) rfl rfl rfl (hdep ⟨0, .data⟩ (by simp) rfl)
          obtain rfl := hsp
          exact hI.callQ (by kernel_rfl) hls rfl rfl rfl 24 #[.tmp 9] _ rfl #[.agg (numsA .u8 k)] (by simp [eval_of hvp]) (run_enter Tryd.func24 (by kernel_rfl) (by kernel_rfl)) (.like (IsCV 20 RP [some eP] (.int .i64 0))) rfl rfl ((decodeT _ (HT.out.upd (HU1.out.trans hI.upd)) hl hd hk).mono fun _ _ h => h.sq) hK'
        · obtain rfl := Option.some.inj ho
          obtain ⟨vp, hvp, ap, rfl, hCp⟩ := hI.haveQ 1 _ 10 (.like (IsCV 20 RP [some eP] (.int .i64 0))) rfl rfl rfl (hdep ⟨1, .data⟩ (by simp) rfl)
          exact hI.pureQ (by kernel_rfl) hls rfl rfl rfl _ (run_moveQ (.inl rfl) (eval_of hvp) wn) (.like (IsCV 20 RP [some eP] (.int .i64 0))) rfl ⟨_, rfl, hCp⟩ rfl hK'
        · obtain rfl := Option.some.inj ho
          obtain ⟨vp, hvp, ap, rfl, hCp⟩ := hI.haveQ 2 _ 8 (.like (IsCV 20 RP [some eP] (.int .i64 0))) rfl rfl rfl (hdep ⟨2, .data⟩ (by simp) rfl)
          exact hI.pureQ (by kernel_rfl) hls rfl rfl rfl _ (run_extractQ rfl (eval_of hvp) rfl wn) (.like (IsC 20 RP [some eP])) rfl ⟨_, rfl, hCp⟩ rfl hK'
        · obtain rfl := Option.some.inj ho
          obtain ⟨vp, hvp, ap, rfl, hCp⟩ := hI.haveQ 2 _ 8 (.like (IsCV 20 RP [some eP] (.int .i64 0))) rfl rfl rfl (hdep ⟨2, .data⟩ (by simp) rfl)
          exact hI.pureQ (by kernel_rfl) hls rfl rfl rfl (.int .i64 0) (run_extractQ rfl (eval_of hvp) rfl wn) (.val (.int .i64 0)) rfl rfl rfl hK'
        · obtain rfl := Option.some.inj ho
          exact hI.newQ (by kernel_rfl) hls (Nat.le_refl _) (newsQ_spec (l := [5]) (by kernel_rfl) ⟨⟨_, _, rfl⟩, trivial⟩) rfl rfl rfl 41 zPt _ (run_allocQ rfl zPt_run wn) rfl zPt_p hK'
        · exact hi.elim
      · intro an w3 hI
        obtain ⟨vr2_0, hvr2_0, hsr2_0⟩ := hI.haveQ 0 _ 9 (.val (.agg (numsA .u8 k))) rfl rfl rfl rfl
        obtain rfl := hsr2_0
        obtain ⟨vr2_1, hvr2_1, ar2_1, rfl, hCr2_1⟩ := hI.haveQ 1 _ 10 (.like (IsCV 20 RP [some eP] (.int .i64 0))) rfl rfl rfl rfl
        obtain ⟨vr2_2, hvr2_2, ar2_2, rfl, hCr2_2⟩ := hI.haveQ 2 _ 8 (.like (IsCV 20 RP [some eP] (.int .i64 0))) rfl rfl rfl rfl
        obtain ⟨vr2_3, hvr2_3, ar2_3, rfl, hCr2_3⟩ := hI.haveQ 3 _ 11 (.like (IsC 20 RP [some eP])) rfl rfl rfl rfl
        obtain ⟨vr2_4, hvr2_4, hsr2_4⟩ := hI.haveQ 4 _ 12 (.val (.int .i64 0)) rfl rfl rfl rfl
        obtain rfl := hsr2_4
        obtain ⟨vr2_5, hvr2_5, br2_5, zr2_5, rfl, hnr2_5, hbr2_5, hzr2_5⟩ := hI.haveQ 5 _ 3 (.blk ptrTo 41 (Ch 20 RP [none])) rfl rfl rfl rfl
        have hupd := hI.upd
        have ha := hI.act [(9, .agg (numsA .u8 k)), (10, .tuple #[.agg ar2_1, .int .i64 0]), (8, .tuple #[.agg ar2_2, .int .i64 0]), (11, .agg ar2_3), (12, .int .i64 0), (3, ptrTo br2_5)] (by simp [hvr2_0, hvr2_1, hvr2_2, hvr2_3, hvr2_4, hvr2_5]) (by kernel_rfl)
        clear hI hvr2_0 hvr2_1 hvr2_2 hvr2_3 hvr2_4 hvr2_5
        subst ha
        simp only [List.foldl_cons, List.foldl_nil, List.setIfInBounds_toArray, List.set_cons_zero, List.set_cons_succ]
        have hner2_5_Bxr0y0_1 := Lib.hid (show br2_5 ≠ br0_0 from Nat.ne_of_gt (Nat.lt_of_lt_of_le Bxr0y0_1.out.lt hnr2_5))
        have hger2_5 := Lib.hid (Nat.le_trans HU1.out.size hnr2_5)
        have Bxr0y0_2 := Lib.hid (hupd.blk (show Blk w2 br0_0 23 (numsA .u8 k) from Bxr0y0_1.out) (fun h => h))
        have Bxr2y5 := Lib.hid hbr2_5
        have HU2 := Lib.hid (HU1.out.trans hupd)
        clear hupd
        refine wpOps_storeQ 6 rfl rfl rfl 41 (.tmp 3) (.tmp 11) rfl br2_5 0 20 rfl ar2_3 rfl 41 zr2_5 Bxr2y5.out szPt hCr2_3.size (by rw [hzr2_5.size]; exact Nat.le_of_ble_eq_true rfl) hCr2_3.one' ?_
        intro ws2_0 hs2_0 hus2_0
        rw [splice_all _ _ 20 hzr2_5.size hCr2_3.size] at hs2_0
        have Bxr0y0_s2_0 := Lib.hid (hus2_0.blk Bxr0y0_2.out (fun e => hner2_5_Bxr0y0_1.out e.symm))
        have Bxr2y5_s2_0 := Lib.hid hs2_0
        have HU2_0 := Lib.hid (HU2.out.step hus2_0 (fun i hi h => absurd hi (Nat.not_lt.2 (h.symm ▸ hger2_5.out))))
        clear hs2_0 hus2_0
        refine wpOps_pureQ 7 rfl rfl 4 rfl (.int .i64 0) (run_moveQ (x := .tmp 12) (v := .int .i64 0) (.inr rfl) rfl _) ?_
        simp only [List.setIfInBounds_toArray, List.set_cons_zero, List.set_cons_succ]
        refine wpOps_nil ?_
        refine hK3 _ _ ?_
        clear hK3
        refine wp_seq_k fun K4 hK4 => ?_
        refine wp_seq_k fun K5 hK5 => ?_
        refine wp_region_qS 2 #[true, true] [] ([.val (.int .i64 0), .val (.bool false)] : List SQ) (by kernel_rfl) (by kernel_rfl) (by kernel_rfl) ?_ ?_
        · intro i o listed an wn ho hls hst hun hdep hI hpre K' hK'
          have hi : i = 0 ∨ i = 1 ∨ False := slot_cases (l := [0, 1]) rfl ho hst
          rcases hi with rfl | rfl | hi
          · obtain rfl := Option.some.inj ho
            have hvp : an.eval (.tmp 4) = .int .i64 0 := hI.oldQ (by kernel_rfl) rfl
            exact hI.pureQ (by kernel_rfl) hls rfl rfl rfl (.int .i64 0) (run_moveQ (.inl rfl) hvp wn) (.val (.int .i64 0)) rfl rfl rfl hK'
          · obtain rfl := Option.some.inj ho
            obtain ⟨vp, hvp, hsp⟩ := hI.haveQ 0 _ 13 (.val (.int .i64 0)) rfl rfl rfl (hdep ⟨0, .data⟩ (by simp) rfl)
            obtain rfl := hsp
            exact hI.pureQ (by kernel_rfl) hls rfl rfl rfl (.bool false) (run_neq rfl (eval_of hvp) rfl (ne_of_eqB (show decide ((0 : Int) = 0) = true by decide)) wn) (.val (.bool false)) rfl rfl rfl hK'
          · exact hi.elim
        · intro an w4 hI
          obtain ⟨vr3_0, hvr3_0, hsr3_0⟩ := hI.haveQ 0 _ 13 (.val (.int .i64 0)) rfl rfl rfl rfl
          obtain rfl := hsr3_0
          obtain ⟨vr3_1, hvr3_1, hsr3_1⟩ := hI.haveQ 1 _ 14 (.val (.bool false)) rfl rfl rfl rfl
          obtain rfl := hsr3_1
          have hupd := hI.upd
          have ha := hI.act [(13, .int .i64 0), (14, .bool false)] (by simp [hvr3_0, hvr3_1]) (by kernel_rfl)
          clear hI hvr3_0 hvr3_1
          subst ha
          simp only [List.foldl_cons, List.foldl_nil, List.setIfInBounds_toArray, List.set_cons_zero, List.set_cons_succ]
          have Bxr0y0_3 := Lib.hid (hupd.blk (show Blk ws2_0 br0_0 23 (numsA .u8 k) from Bxr0y0_s2_0.out) (fun h => h))
          have Bxr2y5_3 := Lib.hid (hupd.blk (show Blk ws2_0 br2_5 41 ar2_3 from Bxr2y5_s2_0.out) (fun h => h))
          have HU3 := Lib.hid (HU2_0.out.trans hupd)
          clear hupd
          refine wpOps_nil ?_
          refine hK5 _ _ ?_
          clear hK5
          refine wp_cond_false rfl ?_
          refine wp_skip ?_
          refine hK4 _ _ ?_
          clear hK4
          refine wp_seq_k fun K6 hK6 => ?_
          refine wp_region_qS 4 #[true, true, true, true, false] [4] ([.val (.agg ar2_3), .like (IsC 20 RP [some eP.back]), .val (.agg (numsA .u8 (encP eP.back))), .blk ptrTo 23 (fun z => z = numsA .u8 zeroKL), .val undef] : List SQ) (by kernel_rfl) (by kernel_rfl) (by kernel_rfl) ?_ ?_
          · intro i o listed an wn ho hls hst hun hdep hI hpre K' hK'
            have hi : i = 0 ∨ i = 1 ∨ i = 2 ∨ i = 3 ∨ False := slot_cases (l := [0, 1, 2, 3]) rfl ho hst
            rcases hi with rfl | rfl | rfl | rfl | hi
            · obtain rfl := Option.some.inj ho
              have hvp : an.eval (.tmp 3) = ptrTo br2_5 := hI.oldQ (by kernel_rfl) rfl
              exact hI.pureQ (by kernel_rfl) hls rfl rfl rfl _ (run_loadQ rfl hvp wn (hI.upd.blk (show Blk w4 br2_5 41 ar2_3 from Bxr2y5_3.out) (fun h => h)) Tryd.underlying41 rfl szPt (by rw [hCr2_3.size]; exact Nat.le_of_ble_eq_true rfl)) (.val (.agg ar2_3)) rfl (congrArg Value.agg (extract_all _ 20 hCr2_3.size)) rfl hK'
            · obtain rfl := Option.some.inj ho
              obtain ⟨vp, hvp, hsp⟩ := hI.haveQ 0 _ 15 (.val (.agg ar2_3)) rfl rfl rfl (hdep ⟨0, .data⟩ (by simp) rfl)
              obtain rfl := hsp
              exact hI.callQ (by kernel_rfl) hls rfl rfl rfl 32 #[.tmp 15] _ rfl #[.agg ar2_3] (by simp [eval_of hvp]) (run_enter Tryd.func32 (by kernel_rfl) (by kernel_rfl)) (.like (IsC 20 RP [some eP.back])) rfl rfl ((negR _ (HT.out.upd (HU3.out.trans hI.upd)) hCr2_3).mono fun _ _ h => h.sq) hK'
            · obtain rfl := Option.some.inj ho
              obtain ⟨vp, hvp, ap, rfl, hCp⟩ := hI.haveQ 1 _ 16 (.like (IsC 20 RP [some eP.back])) rfl rfl rfl (hdep ⟨1, .data⟩ (by simp) rfl)
              exact hI.callQ (by kernel_rfl) hls rfl rfl rfl 26 #[.tmp 16] _ rfl #[.agg ap] (by simp [eval_of hvp]) (run_enter Tryd.func26 (by kernel_rfl) (by kernel_rfl)) (.val (.agg (numsA .u8 (encP eP.back)))) rfl rfl ((encodeR _ hCp).mono fun _ _ h => ret_val h) hK'
            · obtain rfl := Option.some.inj ho
              exact hI.newQ (by kernel_rfl) hls (Nat.le_refl _) (newsQ_spec (l := [3]) (by kernel_rfl) ⟨⟨_, _, rfl⟩, trivial⟩) rfl rfl rfl 23 _ (fun z => z = numsA .u8 zeroKL) (run_allocQ rfl zeroK_run wn) rfl rfl hK'
            · exact hi.elim
          · intro an w5 hI
            obtain ⟨vr4_0, hvr4_0, hsr4_0⟩ := hI.haveQ 0 _ 15 (.val (.agg ar2_3)) rfl rfl rfl rfl
            obtain rfl := hsr4_0
            obtain ⟨vr4_1, hvr4_1, ar4_1, rfl, hCr4_1⟩ := hI.haveQ 1 _ 16 (.like (IsC 20 RP [some eP.back])) rfl rfl rfl rfl
            obtain ⟨vr4_2, hvr4_2, hsr4_2⟩ := hI.haveQ 2 _ 17 (.val (.agg (numsA .u8 (encP eP.back)))) rfl rfl rfl rfl
            obtain rfl := hsr4_2
            obtain ⟨vr4_3, hvr4_3, br4_3, zr4_3, rfl, hnr4_3, hbr4_3, hzr4_3⟩ := hI.haveQ 3 _ 5 (.blk ptrTo 23 (fun z => z = numsA .u8 zeroKL)) rfl rfl rfl rfl
            rw [hzr4_3] at hbr4_3
            clear hzr4_3
            have hupd := hI.upd
            have ha := hI.act [(15, .agg ar2_3), (16, .agg ar4_1), (17, .agg (numsA .u8 (encP eP.back))), (5, ptrTo br4_3)] (by simp [hvr4_0, hvr4_1, hvr4_2, hvr4_3]) (by kernel_rfl)
            clear hI hvr4_0 hvr4_1 hvr4_2 hvr4_3
            subst ha
            simp only [List.foldl_cons, List.foldl_nil, List.setIfInBounds_toArray, List.set_cons_zero, List.set_cons_succ]
            have hner4_3_Bxr0y0_3 := Lib.hid (show br4_3 ≠ br0_0 from Nat.ne_of_gt (Nat.lt_of_lt_of_le Bxr0y0_3.out.lt hnr4_3))
            have hner4_3_Bxr2y5_3 := Lib.hid (show br4_3 ≠ br2_5 from Nat.ne_of_gt (Nat.lt_of_lt_of_le Bxr2y5_3.out.lt hnr4_3))
            have hger4_3 := Lib.hid (Nat.le_trans HU3.out.size hnr4_3)
            have Bxr0y0_4 := Lib.hid (hupd.blk (show Blk w4 br0_0 23 (numsA .u8 k) from Bxr0y0_3.out) (fun h => h))
            have Bxr2y5_4 := Lib.hid (hupd.blk (show Blk w4 br2_5 41 ar2_3 from Bxr2y5_3.out) (fun h => h))
            have Bxr4y3 := Lib.hid hbr4_3
            have HU4 := Lib.hid (HU3.out.trans hupd)
            clear hupd
            refine wpOps_storeQ 4 rfl rfl rfl 23 (.tmp 5) (.tmp 17) rfl br4_3 0 32 rfl (numsA .u8 (encP eP.back)) rfl 23 (numsA .u8 zeroKL) Bxr4y3.out sizeKey (by rw [numsA_size]; exact encP_length _) (by rw [(show (numsA _ _).size = 32 by rw [numsA_size]; exact zeroKL_length)]; exact Nat.le_of_ble_eq_true rfl) (numsA_one _ _) ?_
            intro ws4_0 hs4_0 hus4_0
            rw [splice_all _ _ 32 (show (numsA _ _).size = 32 by rw [numsA_size]; exact zeroKL_length) (by rw [numsA_size]; exact encP_length _)] at hs4_0
            have Bxr0y0_s4_0 := Lib.hid (hus4_0.blk Bxr0y0_4.out (fun e => hner4_3_Bxr0y0_3.out e.symm))
            have Bxr2y5_s4_0 := Lib.hid (hus4_0.blk Bxr2y5_4.out (fun e => hner4_3_Bxr2y5_3.out e.symm))
            have Bxr4y3_s4_0 := Lib.hid hs4_0
            have HU4_0 := Lib.hid (HU4.out.step hus4_0 (fun i hi h => absurd hi (Nat.not_lt.2 (h.symm ▸ hger4_3.out))))
            clear hs4_0 hus4_0
            refine wpOps_nil ?_
            refine hK6 _ _ ?_
            clear hK6
            refine wp_seq_k fun K7 hK7 => ?_
            refine wp_seq_k fun K8 hK8 => ?_
            refine wp_region_q #[true, true, true, true] ([.val (.agg ar2_3), .val (.agg ar2_3), .like (IsC 20 RP [some eP.back]), .val (.bool false)] : List SQ) (by kernel_rfl) (by kernel_rfl) (by kernel_rfl) ?_ ?_
            · intro i o listed an wn ho hls hst hun hdep hI K' hK'
              have hi : i = 0 ∨ i = 1 ∨ i = 2 ∨ i = 3 ∨ False := slot_cases (l := [0, 1, 2, 3]) rfl ho hst
              rcases hi with rfl | rfl | rfl | rfl | hi
              · obtain rfl := Option.some.inj ho
                have hvp : an.eval (.tmp 3) = ptrTo br2_5 := hI.oldQ (by kernel_rfl) rfl
                exact hI.pureQ (by kernel_rfl) hls rfl rfl rfl _ (run_loadQ rfl hvp wn (hI.upd.blk (show Blk ws4_0.drew br2_5 41 ar2_3 from Bxr2y5_s4_0.out) (fun h => h)) Tryd.underlying41 rfl szPt (by rw [hCr2_3.size]; exact Nat.le_of_ble_eq_true rfl)) (.val (.agg ar2_3)) rfl (congrArg Value.agg (extract_all _ 20 hCr2_3.size)) rfl hK'
              · obtain rfl := Option.some.inj ho
                have hvp : an.eval (.tmp 3) = ptrTo br2_5 := hI.oldQ (by kernel_rfl) rfl
                exact hI.pureQ (by kernel_rfl) hls rfl rfl rfl _ (run_loadQ rfl hvp wn (hI.upd.blk (show Blk ws4_0.drew br2_5 41 ar2_3 from Bxr2y5_s4_0.out) (fun h => h)) Tryd.underlying41 rfl szPt (by rw [hCr2_3.size]; exact Nat.le_of_ble_eq_true rfl)) (.val (.agg ar2_3)) rfl (congrArg Value.agg (extract_all _ 20 hCr2_3.size)) rfl hK'
              · obtain rfl := Option.some.inj ho
                obtain ⟨vp, hvp, hsp⟩ := hI.haveQ 1 _ 19 (.val (.agg ar2_3)) rfl rfl rfl (hdep ⟨1, .data⟩ (by simp) rfl)
                obtain rfl := hsp
                exact hI.callQ (by kernel_rfl) hls rfl rfl rfl 32 #[.tmp 19] _ rfl #[.agg ar2_3] (by simp [eval_of hvp]) (run_enter Tryd.func32 (by kernel_rfl) (by kernel_rfl)) (.like (IsC 20 RP [some eP.back])) rfl rfl ((negR _ (HT.out.upd (HU4_0.out.drew.trans hI.upd)) hCr2_3).mono fun _ _ h => h.sq) hK'
              · obtain rfl := Option.some.inj ho
                obtain ⟨vp, hvp, hsp⟩ := hI.haveQ 0 _ 18 (.val (.agg ar2_3)) rfl rfl rfl (hdep ⟨0, .data⟩ (by simp) rfl)
                obtain rfl := hsp
                obtain ⟨vq, hvq, aq, rfl, hCq⟩ := hI.haveQ 2 _ 20 (.like (IsC 20 RP [some eP.back])) rfl rfl rfl (hdep ⟨2, .data⟩ (by simp) rfl)
                exact hI.callQ (by kernel_rfl) hls rfl rfl rfl 31 #[.tmp 18, .tmp 20] _ rfl #[.agg ar2_3, .agg aq] (by simp [eval_of hvp, eval_of hvq]) (run_enter Tryd.func31 (by kernel_rfl) (by kernel_rfl)) (.val (.bool false)) rfl rfl ((equalR _ hCr2_3 hCq).mono fun _ _ h => ret_val (ret_b h (edEq_f hb))) hK'
              · exact hi.elim
            · intro fuel an w6 hf hI
              obtain ⟨vr5_0, hvr5_0, hsr5_0⟩ := hI.haveQ 0 _ 18 (.val (.agg ar2_3)) rfl rfl rfl rfl
              obtain rfl := hsr5_0
              obtain ⟨vr5_1, hvr5_1, hsr5_1⟩ := hI.haveQ 1 _ 19 (.val (.agg ar2_3)) rfl rfl rfl rfl
              obtain rfl := hsr5_1
              obtain ⟨vr5_2, hvr5_2, ar5_2, rfl, hCr5_2⟩ := hI.haveQ 2 _ 20 (.like (IsC 20 RP [some eP.back])) rfl rfl rfl rfl
              obtain ⟨vr5_3, hvr5_3, hsr5_3⟩ := hI.haveQ 3 _ 21 (.val (.bool false)) rfl rfl rfl rfl
              obtain rfl := hsr5_3
              have hupd := hI.upd
              have ha := hI.act [(18, .agg ar2_3), (19, .agg ar2_3), (20, .agg ar5_2), (21, .bool false)] (by simp [hvr5_0, hvr5_1, hvr5_2, hvr5_3]) (by kernel_rfl)
              clear hI hvr5_0 hvr5_1 hvr5_2 hvr5_3
              subst ha
              simp only [List.foldl_cons, List.foldl_nil, List.setIfInBounds_toArray, List.set_cons_zero, List.set_cons_succ]
              have Bxr0y0_5 := Lib.hid (hupd.blk (show Blk ws4_0.drew br0_0 23 (numsA .u8 k) from Bxr0y0_s4_0.out) (fun h => h))
              have Bxr2y5_5 := Lib.hid (hupd.blk (show Blk ws4_0.drew br2_5 41 ar2_3 from Bxr2y5_s4_0.out) (fun h => h))
              have Bxr4y3_5 := Lib.hid (hupd.blk (show Blk ws4_0.drew br4_3 23 (numsA .u8 (encP eP.back)) from Bxr4y3_s4_0.out) (fun h => h))
              have HU5 := Lib.hid (HU4_0.out.drew.trans hupd)
              clear hupd
              refine wpAny_done (by kernel_rfl) ?_ _
              refine hK8 _ _ ?_
              clear hK8
              refine wp_cond_false rfl ?_
              refine wp_skip ?_
              refine hK7 _ _ ?_
              clear hK7
              refine wp_seq_k fun K9 hK9 => ?_
              refine wp_region_qS 4 #[true, true, true, true, false] [4] ([.val (.pointer (some ⟨br4_3, 0 + 31, none⟩)), .val (.int .u8 ((encP eP.back).getD 31 0)), .val (.int .u8 (bits .xor .u8 ((encP eP.back).getD 31 0) 128)), .val (.pointer (some ⟨br4_3, 0 + 31, none⟩)), .val undef] : List SQ) (by kernel_rfl) (by kernel_rfl) (by kernel_rfl) ?_ ?_
              · intro i o listed an wn ho hls hst hun hdep hI hpre K' hK'
                have hi : i = 0 ∨ i = 1 ∨ i = 2 ∨ i = 3 ∨ False := slot_cases (l := [0, 1, 2, 3]) rfl ho hst
                rcases hi with rfl | rfl | rfl | rfl | hi
                · obtain rfl := Option.some.inj ho
                  have hvp : an.eval (.tmp 5) = ptrTo br4_3 := hI.oldQ (by kernel_rfl) rfl
                  exact hI.pureQ (by kernel_rfl) hls rfl rfl rfl (.pointer (some ⟨br4_3, 0 + 31, none⟩)) (run_adr (off := 0) (i := 31) rfl Tryd.underlying23 size5 hvp rfl (by omega) wn) (.val (.pointer (some ⟨br4_3, 0 + 31, none⟩))) rfl rfl rfl hK'
                · obtain rfl := Option.some.inj ho
                  obtain ⟨vp, hvp, hsp⟩ := hI.haveQ 0 _ 30 (.val (.pointer (some ⟨br4_3, 0 + 31, none⟩))) rfl rfl rfl (hdep ⟨0, .data⟩ (by simp) rfl)
                  obtain rfl := hsp
                  exact hI.pureQ (by kernel_rfl) hls rfl rfl rfl (.int .u8 ((encP eP.back).getD 31 0)) (run_cellQ rfl Tryd.underlying5 (eval_of hvp) wn (hI.upd.blk (show Blk w6 br4_3 23 (numsA .u8 (encP eP.back)) from Bxr4y3_5.out) (fun h => h)) (by rw [Nat.zero_add]; exact numsA_get _ _ _ (by rw [encP_length _]; omega))) (.val (.int .u8 ((encP eP.back).getD 31 0))) rfl rfl rfl hK'
                · obtain rfl := Option.some.inj ho
                  obtain ⟨vp, hvp, hsp⟩ := hI.haveQ 1 _ 31 (.val (.int .u8 ((encP eP.back).getD 31 0))) rfl rfl rfl (hdep ⟨1, .data⟩ (by simp) rfl)
                  obtain rfl := hsp
                  exact hI.pureQ (by kernel_rfl) hls rfl rfl rfl (.int .u8 (bits .xor .u8 ((encP eP.back).getD 31 0) 128)) (run_xor8 rfl (eval_of hvp) rfl wn) (.val (.int .u8 (bits .xor .u8 ((encP eP.back).getD 31 0) 128))) rfl rfl rfl hK'
                · obtain rfl := Option.some.inj ho
                  have hvp : an.eval (.tmp 5) = ptrTo br4_3 := hI.oldQ (by kernel_rfl) rfl
                  exact hI.pureQ (by kernel_rfl) hls rfl rfl rfl (.pointer (some ⟨br4_3, 0 + 31, none⟩)) (run_adr (off := 0) (i := 31) rfl Tryd.underlying23 size5 hvp rfl (by omega) wn) (.val (.pointer (some ⟨br4_3, 0 + 31, none⟩))) rfl rfl rfl hK'
                · exact hi.elim
              · intro an w7 hI
                obtain ⟨vr6_0, hvr6_0, hsr6_0⟩ := hI.haveQ 0 _ 30 (.val (.pointer (some ⟨br4_3, 0 + 31, none⟩))) rfl rfl rfl rfl
                obtain rfl := hsr6_0
                obtain ⟨vr6_1, hvr6_1, hsr6_1⟩ := hI.haveQ 1 _ 31 (.val (.int .u8 ((encP eP.back).getD 31 0))) rfl rfl rfl rfl
                obtain rfl := hsr6_1
                obtain ⟨vr6_2, hvr6_2, hsr6_2⟩ := hI.haveQ 2 _ 32 (.val (.int .u8 (bits .xor .u8 ((encP eP.back).getD 31 0) 128))) rfl rfl rfl rfl
                obtain rfl := hsr6_2
                obtain ⟨vr6_3, hvr6_3, hsr6_3⟩ := hI.haveQ 3 _ 33 (.val (.pointer (some ⟨br4_3, 0 + 31, none⟩))) rfl rfl rfl rfl
                obtain rfl := hsr6_3
                have hupd := hI.upd
                have ha := hI.act [(30, .pointer (some ⟨br4_3, 0 + 31, none⟩)), (31, .int .u8 ((encP eP.back).getD 31 0)), (32, .int .u8 (bits .xor .u8 ((encP eP.back).getD 31 0) 128)), (33, .pointer (some ⟨br4_3, 0 + 31, none⟩))] (by simp [hvr6_0, hvr6_1, hvr6_2, hvr6_3]) (by kernel_rfl)
                clear hI hvr6_0 hvr6_1 hvr6_2 hvr6_3
                subst ha
                simp only [List.foldl_cons, List.foldl_nil, List.setIfInBounds_toArray, List.set_cons_zero, List.set_cons_succ]
                have Bxr0y0_6 := Lib.hid (hupd.blk (show Blk w6 br0_0 23 (numsA .u8 k) from Bxr0y0_5.out) (fun h => h))
                have Bxr2y5_6 := Lib.hid (hupd.blk (show Blk w6 br2_5 41 ar2_3 from Bxr2y5_5.out) (fun h => h))
                have Bxr4y3_6 := Lib.hid (hupd.blk (show Blk w6 br4_3 23 (numsA .u8 (encP eP.back)) from Bxr4y3_5.out) (fun h => h))
                have HU6 := Lib.hid (HU5.out.trans hupd)
                clear hupd
                refine wpOps_storeB 4 rfl rfl rfl 5 (.tmp 33) (.tmp 32) rfl size5 br4_3 (0 + 31) rfl (bits .xor .u8 ((encP eP.back).getD 31 0) 128) rfl 23 (encP eP.back) Bxr4y3_6.out (by rw [encP_length _]; omega) ?_
                rw [Nat.zero_add]
                intro ws6_0 hs6_0 hus6_0
                have Bxr0y0_s6_0 := Lib.hid (hus6_0.blk Bxr0y0_6.out (fun e => hner4_3_Bxr0y0_3.out e.symm))
                have Bxr2y5_s6_0 := Lib.hid (hus6_0.blk Bxr2y5_6.out (fun e => hner4_3_Bxr2y5_3.out e.symm))
                have Bxr4y3_s6_0 := Lib.hid hs6_0
                have HU6_0 := Lib.hid (HU6.out.step hus6_0 (fun i hi h => absurd hi (Nat.not_lt.2 (h.symm ▸ hger4_3.out))))
                clear hs6_0 hus6_0
                refine wpOps_nil ?_
                refine hK9 _ _ ?_
                clear hK9
                refine wp_seq_k fun K10 hK10 => ?_
                refine wp_region_qS 4 #[true, true, true, true] [] ([.val (.agg (numsA .u8 ((encP eP.back).set 31 (bits .xor .u8 ((encP eP.back).getD 31 0) 128)))), .val (.agg (numsA .u8 k)), .val (.bool true), .val (.bool true)] : List SQ) (by kernel_rfl) (by kernel_rfl) (by kernel_rfl) ?_ ?_
                · intro i o listed an wn ho hls hst hun hdep hI hpre K' hK'
                  have hi : i = 0 ∨ i = 1 ∨ i = 2 ∨ i = 3 ∨ False := slot_cases (l := [0, 1, 2, 3]) rfl ho hst
                  rcases hi with rfl | rfl | rfl | rfl | hi
                  · obtain rfl := Option.some.inj ho
                    have hvp : an.eval (.tmp 5) = ptrTo br4_3 := hI.oldQ (by kernel_rfl) rfl
                    exact hI.pureQ (by kernel_rfl) hls rfl rfl rfl _ (run_loadQ rfl hvp wn (hI.upd.blk (show Blk ws6_0 br4_3 23 (numsA .u8 ((encP eP.back).set 31 (bits .xor .u8 ((encP eP.back).getD 31 0) 128))) from Bxr4y3_s6_0.out) (fun h => h)) Tryd.underlying23 rfl sizeKey (by rw [numsA_size, (set_length (encP_length _) _ _)]; omega)) (.val (.agg (numsA .u8 ((encP eP.back).set 31 (bits .xor .u8 ((encP eP.back).getD 31 0) 128))))) rfl (congrArg Value.agg (extract_all _ 32 (by rw [numsA_size]; exact (set_length (encP_length _) _ _)))) rfl hK'
                  · obtain rfl := Option.some.inj ho
                    have hvp : an.eval (.tmp 1) = ptrTo br0_0 := hI.oldQ (by kernel_rfl) rfl
                    exact hI.pureQ (by kernel_rfl) hls rfl rfl rfl _ (run_loadQ rfl hvp wn (hI.upd.blk (show Blk ws6_0 br0_0 23 (numsA .u8 k) from Bxr0y0_s6_0.out) (fun h => h)) Tryd.underlying23 rfl sizeKey (by rw [numsA_size, hl]; omega)) (.val (.agg (numsA .u8 k))) rfl (congrArg Value.agg (extract_all _ 32 (by rw [numsA_size]; exact hl))) rfl hK'
                  · obtain rfl := Option.some.inj ho
                    obtain ⟨vp, hvp, hsp⟩ := hI.haveQ 0 _ 34 (.val (.agg (numsA .u8 ((encP eP.back).set 31 (bits .xor .u8 ((encP eP.back).getD 31 0) 128))))) rfl rfl rfl (hdep ⟨0, .data⟩ (by simp) rfl)
                    obtain rfl := hsp
                    obtain ⟨vq, hvq, hsq⟩ := hI.haveQ 1 _ 35 (.val (.agg (numsA .u8 k))) rfl rfl rfl (hdep ⟨1, .data⟩ (by simp) rfl)
                    obtain rfl := hsq
                    exact hI.pureQ (by kernel_rfl) hls rfl rfl rfl (.bool true) (run_eqlK (b := true) rfl (eval_of hvp) (eval_of hvq) (set_length (encP_length _) _ _) hl (decide_eq_true (by rw [back_xor hb]; exact hk)) wn) (.val (.bool true)) rfl rfl rfl hK'
                  · obtain rfl := Option.some.inj ho
                    obtain ⟨vp, hvp, hsp⟩ := hI.haveQ 2 _ 36 (.val (.bool true)) rfl rfl rfl (hdep ⟨2, .data⟩ (by simp) rfl)
                    obtain rfl := hsp
                    exact hI.pureQ (by kernel_rfl) hls rfl rfl rfl (.bool true) (run_moveQ (.inr rfl) (eval_of hvp) wn) (.val (.bool true)) rfl rfl rfl hK'
                  · exact hi.elim
                · intro an w8 hI
                  obtain ⟨vr7_0, hvr7_0, hsr7_0⟩ := hI.haveQ 0 _ 34 (.val (.agg (numsA .u8 ((encP eP.back).set 31 (bits .xor .u8 ((encP eP.back).getD 31 0) 128))))) rfl rfl rfl rfl
                  obtain rfl := hsr7_0
                  obtain ⟨vr7_1, hvr7_1, hsr7_1⟩ := hI.haveQ 1 _ 35 (.val (.agg (numsA .u8 k))) rfl rfl rfl rfl
                  obtain rfl := hsr7_1
                  obtain ⟨vr7_2, hvr7_2, hsr7_2⟩ := hI.haveQ 2 _ 36 (.val (.bool true)) rfl rfl rfl rfl
                  obtain rfl := hsr7_2
                  obtain ⟨vr7_3, hvr7_3, hsr7_3⟩ := hI.haveQ 3 _ 2 (.val (.bool true)) rfl rfl rfl rfl
                  obtain rfl := hsr7_3
                  have hupd := hI.upd
                  have ha := hI.act [(34, .agg (numsA .u8 ((encP eP.back).set 31 (bits .xor .u8 ((encP eP.back).getD 31 0) 128)))), (35, .agg (numsA .u8 k)), (36, .bool true), (2, .bool true)] (by simp [hvr7_0, hvr7_1, hvr7_2, hvr7_3]) (by kernel_rfl)
                  clear hI hvr7_0 hvr7_1 hvr7_2 hvr7_3
                  subst ha
                  simp only [List.foldl_cons, List.foldl_nil, List.setIfInBounds_toArray, List.set_cons_zero, List.set_cons_succ]
                  have Bxr0y0_7 := Lib.hid (hupd.blk (show Blk ws6_0 br0_0 23 (numsA .u8 k) from Bxr0y0_s6_0.out) (fun h => h))
                  have Bxr2y5_7 := Lib.hid (hupd.blk (show Blk ws6_0 br2_5 41 ar2_3 from Bxr2y5_s6_0.out) (fun h => h))
                  have Bxr4y3_7 := Lib.hid (hupd.blk (show Blk ws6_0 br4_3 23 (numsA .u8 ((encP eP.back).set 31 (bits .xor .u8 ((encP eP.back).getD 31 0) 128))) from Bxr4y3_s6_0.out) (fun h => h))
                  have HU7 := Lib.hid (HU6_0.out.trans hupd)
                  clear hupd
                  refine wpOps_nil ?_
                  refine hK10 _ _ ?_
                  clear hK10
                  refine wp_ret ?_
                  try dsimp only [Exit.then]
                  try dsimp only [Exit.inBlock]
                  exact bodyPost_ret (v := .bool true) (results_tmpQ (fn := Tryd.f14) (t := 2) rfl _ _ (.bool true) rfl) rfl ⟨rfl, HU7.out⟩
theorem pointSigns_any {k : List Int} (w : World) (hT : Tw w) (hl : k.length = 32) (hd : Digs 256 k) : Calls Tryd.prog 14 #[.agg (numsA .u8 k)] w fun e w' => e = .returned (.bool true) ∧ Upd (fun _ => False) w w' := by
  by_cases h : ∃ e : EP, encP e = k
  · obtain ⟨e, he⟩ := h
    by_cases hb : e = e.back
    · exact signsT w hT hl hd he hb
    · exact signsF w hT hl hd he hb
  · exact signsN w hT hl hd (fun e he => h ⟨e, he⟩)
end Go.Proofs.YtdpafemcpbhlfaaDoor
