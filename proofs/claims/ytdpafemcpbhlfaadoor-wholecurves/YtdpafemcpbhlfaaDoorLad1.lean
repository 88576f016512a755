/-
  Walks of ladder: square, double, step, none, divided, turned.
-/
import Derived.Test.YtdpafemcpbhlfaaDoorSh
namespace Go.Proofs.YtdpafemcpbhlfaaDoor
set_option maxRecDepth 100000
open Go.RowKit

set_option maxHeartbeats 4000000 in
theorem squareL {x : Fp} {a : Array Value} (w : World) (ha : Ch 5 RE [x] a) :
    Calls Tryd.prog 87 #[.agg a] w (RetC 5 RE [x * x] w) := by
  have HU := Lib.hid (Upd.refl (fun _ => False) w)
  go_enter Tryd.func87, Tryd.ntmps87
  refine wp_seq_k fun K0 hK0 => ?_
  refine wp_region_qS 2 #[true, true] [] ([.blk ptrTo 39 (Ch 5 RE [x]), .blk ptrTo 39 (Ch 5 RE [0])] : List SQ) (by kernel_rfl) (by kernel_rfl) (by kernel_rfl) ?_ ?_
  · intro i o listed an wn ho hls hst hun hdep hI hpre K' hK'
    have hi : i = 0 ∨ i = 1 ∨ False := slot_cases (l := [0, 1]) rfl ho hst
    rcases hi with rfl | rfl | hi
    · obtain rfl := Option.some.inj ho
      have hvp : an.eval (.tmp 0) = .agg a := hI.oldQ (by kernel_rfl) rfl
      exact hI.newQ (by kernel_rfl) hls (Nat.le_refl _) (newsQ_spec (l := [0, 1]) (by kernel_rfl) ⟨⟨_, _, rfl⟩, ⟨_, _, rfl⟩, trivial⟩) rfl rfl rfl 39 a _ (run_boxQ rfl hvp wn) rfl ha hK'
    · obtain rfl := Option.some.inj ho
      exact hI.newQ (by kernel_rfl) hls (Nat.le_refl _) (newsQ_spec (l := [0, 1]) (by kernel_rfl) ⟨⟨_, _, rfl⟩, ⟨_, _, rfl⟩, trivial⟩) rfl rfl rfl 39 zE _ (run_allocQ rfl zE_run wn) rfl zE_ch hK'
    · exact hi.elim
  · intro an w1 hI
    obtain ⟨vr0_0, hvr0_0, br0_0, zr0_0, rfl, hnr0_0, hbr0_0, hzr0_0⟩ := hI.haveQ 0 _ 1 (.blk ptrTo 39 (Ch 5 RE [x])) rfl rfl rfl rfl
    obtain ⟨vr0_1, hvr0_1, br0_1, zr0_1, rfl, hnr0_1, hbr0_1, hzr0_1⟩ := hI.haveQ 1 _ 2 (.blk ptrTo 39 (Ch 5 RE [0])) rfl rfl rfl rfl
    have hupd := hI.upd
    have hner0_0_r0_1 := Lib.hid (show br0_0 ≠ br0_1 from fun e => hI.apart 0 1 _ _ 1 2 (by omega) rfl rfl rfl rfl rfl rfl rfl rfl (by rw [hvr0_0, hvr0_1, e]))
    have ha := hI.act [(1, ptrTo br0_0), (2, ptrTo br0_1)] (by simp [hvr0_0, hvr0_1]) (by kernel_rfl)
    clear hI hvr0_0 hvr0_1
    subst ha
    simp only [List.foldl_cons, List.foldl_nil, List.setIfInBounds_toArray, List.set_cons_zero, List.set_cons_succ]
    have hger0_0 := Lib.hid (Nat.le_trans HU.out.size hnr0_0)
    have hger0_1 := Lib.hid (Nat.le_trans HU.out.size hnr0_1)
    have Bxr0y0 := Lib.hid hbr0_0
    have Bxr0y1 := Lib.hid hbr0_1
    have HU0 := Lib.hid (HU.out.trans hupd)
    clear hupd
    refine wpOps_nil ?_
    refine hK0 _ _ ?_
    clear hK0
    refine wp_seq_k fun K1 hK1 => ?_
    refine wp_region_qS 3 #[true, true, true, false] [3] ([.val (.agg zr0_0), .val (.agg zr0_0), .like (IsC 5 RE [x * x]), .val undef] : List SQ) (by kernel_rfl) (by kernel_rfl) (by kernel_rfl) ?_ ?_
    · intro i o listed an wn ho hls hst hun hdep hI hpre K' hK'
      have hi : i = 0 ∨ i = 1 ∨ i = 2 ∨ False := slot_cases (l := [0, 1, 2]) rfl ho hst
      rcases hi with rfl | rfl | rfl | hi
      · obtain rfl := Option.some.inj ho
        have hvp : an.eval (.tmp 1) = ptrTo br0_0 := hI.oldQ (by kernel_rfl) rfl
        exact hI.pureQ (by kernel_rfl) hls rfl rfl rfl _ (run_loadQ rfl hvp wn (hI.upd.blk (show Blk w1 br0_0 39 zr0_0 from Bxr0y0.out) (fun h => h)) Tryd.underlying39 rfl szE (by rw [hzr0_0.size]; exact Nat.le_of_ble_eq_true rfl)) (.val (.agg zr0_0)) rfl (congrArg Value.agg (extract_all _ 5 hzr0_0.size)) rfl hK'
      · obtain rfl := Option.some.inj ho
        have hvp : an.eval (.tmp 1) = ptrTo br0_0 := hI.oldQ (by kernel_rfl) rfl
        exact hI.pureQ (by kernel_rfl) hls rfl rfl rfl _ (run_loadQ rfl hvp wn (hI.upd.blk (show Blk w1 br0_0 39 zr0_0 from Bxr0y0.out) (fun h => h)) Tryd.underlying39 rfl szE (by rw [hzr0_0.size]; exact Nat.le_of_ble_eq_true rfl)) (.val (.agg zr0_0)) rfl (congrArg Value.agg (extract_all _ 5 hzr0_0.size)) rfl hK'
      · obtain rfl := Option.some.inj ho
        obtain ⟨vp, hvp, hsp⟩ := hI.haveQ 0 _ 3 (.val (.agg zr0_0)) rfl rfl rfl (hdep ⟨0, .data⟩ (by simp) rfl)
        obtain rfl := hsp
        obtain ⟨vq, hvq, hsq⟩ := hI.haveQ 1 _ 4 (.val (.agg zr0_0)) rfl rfl rfl (hdep ⟨1, .data⟩ (by simp) rfl)
        obtain rfl := hsq
        exact hI.callQ (by kernel_rfl) hls rfl rfl rfl 44 #[.tmp 3, .tmp 4] _ rfl #[.agg zr0_0, .agg zr0_0] (by simp [eval_of hvp, eval_of hvq]) (run_enter Tryd.func44 (by kernel_rfl) (by kernel_rfl)) (.like (IsC 5 RE [x * x])) rfl rfl ((mulE hzr0_0 hzr0_0).mono fun _ _ h => h.sq) hK'
      · exact hi.elim
    · intro an w2 hI
      obtain ⟨vr1_0, hvr1_0, hsr1_0⟩ := hI.haveQ 0 _ 3 (.val (.agg zr0_0)) rfl rfl rfl rfl
      obtain rfl := hsr1_0
      obtain ⟨vr1_1, hvr1_1, hsr1_1⟩ := hI.haveQ 1 _ 4 (.val (.agg zr0_0)) rfl rfl rfl rfl
      obtain rfl := hsr1_1
      obtain ⟨vr1_2, hvr1_2, ar1_2, rfl, hCr1_2⟩ := hI.haveQ 2 _ 5 (.like (IsC 5 RE [x * x])) rfl rfl rfl rfl
      have hupd := hI.upd
      have ha := hI.act [(3, .agg zr0_0), (4, .agg zr0_0), (5, .agg ar1_2)] (by simp [hvr1_0, hvr1_1, hvr1_2]) (by kernel_rfl)
      clear hI hvr1_0 hvr1_1 hvr1_2
      subst ha
      simp only [List.foldl_cons, List.foldl_nil, List.setIfInBounds_toArray, List.set_cons_zero, List.set_cons_succ]
      have Bxr0y0_1 := Lib.hid (hupd.blk (show Blk w1 br0_0 39 zr0_0 from Bxr0y0.out) (fun h => h))
      have Bxr0y1_1 := Lib.hid (hupd.blk (show Blk w1 br0_1 39 zr0_1 from Bxr0y1.out) (fun h => h))
      have HU1 := Lib.hid (HU0.out.trans hupd)
      clear hupd
      refine wpOps_storeQ 3 rfl rfl rfl 39 (.tmp 2) (.tmp 5) rfl br0_1 0 5 rfl ar1_2 rfl 39 zr0_1 Bxr0y1_1.out szE hCr1_2.size (by rw [hzr0_1.size]; exact Nat.le_of_ble_eq_true rfl) hCr1_2.one' ?_
      intro ws1_0 hs1_0 hus1_0
      rw [splice_all _ _ 5 hzr0_1.size hCr1_2.size] at hs1_0
      have Bxr0y0_s1_0 := Lib.hid (hus1_0.blk Bxr0y0_1.out (fun e => hner0_0_r0_1.out e))
      have Bxr0y1_s1_0 := Lib.hid hs1_0
      have HU1_0 := Lib.hid (HU1.out.step hus1_0 (fun i hi h => absurd hi (Nat.not_lt.2 (h.symm ▸ hger0_1.out))))
      clear hs1_0 hus1_0
      refine wpOps_nil ?_
      refine hK1 _ _ ?_
      clear hK1
      refine wp_ret ?_
      try dsimp only [Exit.then]
      try dsimp only [Exit.inBlock]
      exact bodyPost_ret (v := .agg ar1_2) (results_cell_row (fn := Tryd.f87) (p := 2) (ty := 39) rfl _ _ br0_1 39 _ (0, 0) _ rfl Bxr0y1_s1_0.out Tryd.underlying39 rfl (by rw [hCr1_2.size]; exact szE)) rfl ⟨_, rfl, hCr1_2, HU1_0.out⟩
set_option maxHeartbeats 4000000 in
theorem doubleL {x y : Fp} {a b : Array Value} (w : World) (hT : Tw w) (ha : Ch 5 RE [x] a) (hb : Ch 5 RE [y] b) :
    Calls Tryd.prog 86 #[.agg a, .agg b] w (RetC 5 RE [(x * x) * (y * y), ((x * x) - (y * y)) * ((x * x) + ((fv 121665) * ((x * x) - (y * y))))] w) := by
  have HT := Lib.hid hT
  clear hT
  have HU := Lib.hid (Upd.refl (fun _ => False) w)
  go_enter Tryd.func86, Tryd.ntmps86
  refine wp_seq_k fun K0 hK0 => ?_
  refine wp_region_qS 3 #[true, true, true] [] ([.blk ptrTo 39 (Ch 5 RE [x]), .blk ptrTo 39 (Ch 5 RE [y]), .blk ptrTo 72 (Ch 5 RE [0, 0])] : List SQ) (by kernel_rfl) (by kernel_rfl) (by kernel_rfl) ?_ ?_
  · intro i o listed an wn ho hls hst hun hdep hI hpre K' hK'
    have hi : i = 0 ∨ i = 1 ∨ i = 2 ∨ False := slot_cases (l := [0, 1, 2]) rfl ho hst
    rcases hi with rfl | rfl | rfl | hi
    · obtain rfl := Option.some.inj ho
      have hvp : an.eval (.tmp 0) = .agg a := hI.oldQ (by kernel_rfl) rfl
      exact hI.newQ (by kernel_rfl) hls (Nat.le_refl _) (newsQ_spec (l := [0, 1, 2]) (by kernel_rfl) ⟨⟨_, _, rfl⟩, ⟨_, _, rfl⟩, ⟨_, _, rfl⟩, trivial⟩) rfl rfl rfl 39 a _ (run_boxQ rfl hvp wn) rfl ha hK'
    · obtain rfl := Option.some.inj ho
      have hvp : an.eval (.tmp 1) = .agg b := hI.oldQ (by kernel_rfl) rfl
      exact hI.newQ (by kernel_rfl) hls (Nat.le_refl _) (newsQ_spec (l := [0, 1, 2]) (by kernel_rfl) ⟨⟨_, _, rfl⟩, ⟨_, _, rfl⟩, ⟨_, _, rfl⟩, trivial⟩) rfl rfl rfl 39 b _ (run_boxQ rfl hvp wn) rfl hb hK'
    · obtain rfl := Option.some.inj ho
      exact hI.newQ (by kernel_rfl) hls (Nat.le_refl _) (newsQ_spec (l := [0, 1, 2]) (by kernel_rfl) ⟨⟨_, _, rfl⟩, ⟨_, _, rfl⟩, ⟨_, _, rfl⟩, trivial⟩) rfl rfl rfl 72 zRatio _ (run_allocQ rfl zRatio_run wn) rfl zRatio_ch hK'
    · exact hi.elim
  · intro an w1 hI
    obtain ⟨vr0_0, hvr0_0, br0_0, zr0_0, rfl, hnr0_0, hbr0_0, hzr0_0⟩ := hI.haveQ 0 _ 2 (.blk ptrTo 39 (Ch 5 RE [x])) rfl rfl rfl rfl
    obtain ⟨vr0_1, hvr0_1, br0_1, zr0_1, rfl, hnr0_1, hbr0_1, hzr0_1⟩ := hI.haveQ 1 _ 3 (.blk ptrTo 39 (Ch 5 RE [y])) rfl rfl rfl rfl
    obtain ⟨vr0_2, hvr0_2, br0_2, zr0_2, rfl, hnr0_2, hbr0_2, hzr0_2⟩ := hI.haveQ 2 _ 4 (.blk ptrTo 72 (Ch 5 RE [0, 0])) rfl rfl rfl rfl
    have hupd := hI.upd
    have hner0_0_r0_1 := Lib.hid (show br0_0 ≠ br0_1 from fun e => hI.apart 0 1 _ _ 2 3 (by omega) rfl rfl rfl rfl rfl rfl rfl rfl (by rw [hvr0_0, hvr0_1, e]))
    have hner0_0_r0_2 := Lib.hid (show br0_0 ≠ br0_2 from fun e => hI.apart 0 2 _ _ 2 4 (by omega) rfl rfl rfl rfl rfl rfl rfl rfl (by rw [hvr0_0, hvr0_2, e]))
    have hner0_1_r0_2 := Lib.hid (show br0_1 ≠ br0_2 from fun e => hI.apart 1 2 _ _ 3 4 (by omega) rfl rfl rfl rfl rfl rfl rfl rfl (by rw [hvr0_1, hvr0_2, e]))
    have ha := hI.act [(2, ptrTo br0_0), (3, ptrTo br0_1), (4, ptrTo br0_2)] (by simp [hvr0_0, hvr0_1, hvr0_2]) (by kernel_rfl)
    clear hI hvr0_0 hvr0_1 hvr0_2
    subst ha
    simp only [List.foldl_cons, List.foldl_nil, List.setIfInBounds_toArray, List.set_cons_zero, List.set_cons_succ]
    have hger0_0 := Lib.hid (Nat.le_trans HU.out.size hnr0_0)
    have hger0_1 := Lib.hid (Nat.le_trans HU.out.size hnr0_1)
    have hger0_2 := Lib.hid (Nat.le_trans HU.out.size hnr0_2)
    have Bxr0y0 := Lib.hid hbr0_0
    have Bxr0y1 := Lib.hid hbr0_1
    have Bxr0y2 := Lib.hid hbr0_2
    have HU0 := Lib.hid (HU.out.trans hupd)
    clear hupd
    refine wpOps_nil ?_
    refine hK0 _ _ ?_
    clear hK0
    refine wp_seq_k fun K1 hK1 => ?_
    refine wp_region_q #[true, true, true, true, true, true, false, false] ([.val (.agg zr0_0), .like (IsC 5 RE [x * x]), .val (.agg zr0_1), .like (IsC 5 RE [y * y]), .blk ptrTo 39 (Ch 5 RE [0]), .blk ptrTo 39 (Ch 5 RE [0]), .val undef, .val undef] : List SQ) (by kernel_rfl) (by kernel_rfl) (by kernel_rfl) ?_ ?_
    · intro i o listed an wn ho hls hst hun hdep hI K' hK'
      have hi : i = 0 ∨ i = 1 ∨ i = 2 ∨ i = 3 ∨ i = 4 ∨ i = 5 ∨ False := slot_cases (l := [0, 1, 2, 3, 4, 5]) rfl ho hst
      rcases hi with rfl | rfl | rfl | rfl | rfl | rfl | hi
      · obtain rfl := Option.some.inj ho
        have hvp : an.eval (.tmp 2) = ptrTo br0_0 := hI.oldQ (by kernel_rfl) rfl
        exact hI.pureQ (by kernel_rfl) hls rfl rfl rfl _ (run_loadQ rfl hvp wn (hI.upd.blk (show Blk w1.drew br0_0 39 zr0_0 from Bxr0y0.out) (fun h => h)) Tryd.underlying39 rfl szE (by rw [hzr0_0.size]; exact Nat.le_of_ble_eq_true rfl)) (.val (.agg zr0_0)) rfl (congrArg Value.agg (extract_all _ 5 hzr0_0.size)) rfl hK'
      · obtain rfl := Option.some.inj ho
        obtain ⟨vp, hvp, hsp⟩ := hI.haveQ 0 _ 8 (.val (.agg zr0_0)) rfl rfl rfl (hdep ⟨0, .data⟩ (by simp) rfl)
        obtain rfl := hsp
        exact hI.callQ (by kernel_rfl) hls rfl rfl rfl 87 #[.tmp 8] _ rfl #[.agg zr0_0] (by simp [eval_of hvp]) (run_enter Tryd.func87 (by kernel_rfl) (by kernel_rfl)) (.like (IsC 5 RE [x * x])) rfl rfl ((squareL _ hzr0_0).mono fun _ _ h => h.sq) hK'
      · obtain rfl := Option.some.inj ho
        have hvp : an.eval (.tmp 3) = ptrTo br0_1 := hI.oldQ (by kernel_rfl) rfl
        exact hI.pureQ (by kernel_rfl) hls rfl rfl rfl _ (run_loadQ rfl hvp wn (hI.upd.blk (show Blk w1.drew br0_1 39 zr0_1 from Bxr0y1.out) (fun h => h)) Tryd.underlying39 rfl szE (by rw [hzr0_1.size]; exact Nat.le_of_ble_eq_true rfl)) (.val (.agg zr0_1)) rfl (congrArg Value.agg (extract_all _ 5 hzr0_1.size)) rfl hK'
      · obtain rfl := Option.some.inj ho
        obtain ⟨vp, hvp, hsp⟩ := hI.haveQ 2 _ 10 (.val (.agg zr0_1)) rfl rfl rfl (hdep ⟨2, .data⟩ (by simp) rfl)
        obtain rfl := hsp
        exact hI.callQ (by kernel_rfl) hls rfl rfl rfl 87 #[.tmp 10] _ rfl #[.agg zr0_1] (by simp [eval_of hvp]) (run_enter Tryd.func87 (by kernel_rfl) (by kernel_rfl)) (.like (IsC 5 RE [y * y])) rfl rfl ((squareL _ hzr0_1).mono fun _ _ h => h.sq) hK'
      · obtain rfl := Option.some.inj ho
        exact hI.newQ (by kernel_rfl) hls (Nat.le_refl _) (newsQ_spec (l := [4, 5]) (by kernel_rfl) ⟨⟨_, _, rfl⟩, ⟨_, _, rfl⟩, trivial⟩) rfl rfl rfl 39 zE _ (run_allocQ rfl zE_run wn) rfl zE_ch hK'
      · obtain rfl := Option.some.inj ho
        exact hI.newQ (by kernel_rfl) hls (Nat.le_refl _) (newsQ_spec (l := [4, 5]) (by kernel_rfl) ⟨⟨_, _, rfl⟩, ⟨_, _, rfl⟩, trivial⟩) rfl rfl rfl 39 zE _ (run_allocQ rfl zE_run wn) rfl zE_ch hK'
      · exact hi.elim
    · intro fuel an w2 hf hI
      obtain ⟨vr1_0, hvr1_0, hsr1_0⟩ := hI.haveQ 0 _ 8 (.val (.agg zr0_0)) rfl rfl rfl rfl
      obtain rfl := hsr1_0
      obtain ⟨vr1_1, hvr1_1, ar1_1, rfl, hCr1_1⟩ := hI.haveQ 1 _ 9 (.like (IsC 5 RE [x * x])) rfl rfl rfl rfl
      obtain ⟨vr1_2, hvr1_2, hsr1_2⟩ := hI.haveQ 2 _ 10 (.val (.agg zr0_1)) rfl rfl rfl rfl
      obtain rfl := hsr1_2
      obtain ⟨vr1_3, hvr1_3, ar1_3, rfl, hCr1_3⟩ := hI.haveQ 3 _ 11 (.like (IsC 5 RE [y * y])) rfl rfl rfl rfl
      obtain ⟨vr1_4, hvr1_4, br1_4, zr1_4, rfl, hnr1_4, hbr1_4, hzr1_4⟩ := hI.haveQ 4 _ 5 (.blk ptrTo 39 (Ch 5 RE [0])) rfl rfl rfl rfl
      obtain ⟨vr1_5, hvr1_5, br1_5, zr1_5, rfl, hnr1_5, hbr1_5, hzr1_5⟩ := hI.haveQ 5 _ 6 (.blk ptrTo 39 (Ch 5 RE [0])) rfl rfl rfl rfl
      have hupd := hI.upd
      have hner1_4_r1_5 := Lib.hid (show br1_4 ≠ br1_5 from fun e => hI.apart 4 5 _ _ 5 6 (by omega) rfl rfl rfl rfl rfl rfl rfl rfl (by rw [hvr1_4, hvr1_5, e]))
      have ha := hI.act [(8, .agg zr0_0), (9, .agg ar1_1), (10, .agg zr0_1), (11, .agg ar1_3), (5, ptrTo br1_4), (6, ptrTo br1_5)] (by simp [hvr1_0, hvr1_1, hvr1_2, hvr1_3, hvr1_4, hvr1_5]) (by kernel_rfl)
      clear hI hvr1_0 hvr1_1 hvr1_2 hvr1_3 hvr1_4 hvr1_5
      subst ha
      simp only [List.foldl_cons, List.foldl_nil, List.setIfInBounds_toArray, List.set_cons_zero, List.set_cons_succ]
      have hner1_4_Bxr0y0 := Lib.hid (show br1_4 ≠ br0_0 from Nat.ne_of_gt (Nat.lt_of_lt_of_le Bxr0y0.out.lt hnr1_4))
      have hner1_4_Bxr0y1 := Lib.hid (show br1_4 ≠ br0_1 from Nat.ne_of_gt (Nat.lt_of_lt_of_le Bxr0y1.out.lt hnr1_4))
      have hner1_4_Bxr0y2 := Lib.hid (show br1_4 ≠ br0_2 from Nat.ne_of_gt (Nat.lt_of_lt_of_le Bxr0y2.out.lt hnr1_4))
      have hger1_4 := Lib.hid (Nat.le_trans HU0.out.size hnr1_4)
      have hner1_5_Bxr0y0 := Lib.hid (show br1_5 ≠ br0_0 from Nat.ne_of_gt (Nat.lt_of_lt_of_le Bxr0y0.out.lt hnr1_5))
      have hner1_5_Bxr0y1 := Lib.hid (show br1_5 ≠ br0_1 from Nat.ne_of_gt (Nat.lt_of_lt_of_le Bxr0y1.out.lt hnr1_5))
      have hner1_5_Bxr0y2 := Lib.hid (show br1_5 ≠ br0_2 from Nat.ne_of_gt (Nat.lt_of_lt_of_le Bxr0y2.out.lt hnr1_5))
      have hger1_5 := Lib.hid (Nat.le_trans HU0.out.size hnr1_5)
      have Bxr0y0_1 := Lib.hid (hupd.blk (show Blk w1.drew br0_0 39 zr0_0 from Bxr0y0.out) (fun h => h))
      have Bxr0y1_1 := Lib.hid (hupd.blk (show Blk w1.drew br0_1 39 zr0_1 from Bxr0y1.out) (fun h => h))
      have Bxr0y2_1 := Lib.hid (hupd.blk (show Blk w1.drew br0_2 72 zr0_2 from Bxr0y2.out) (fun h => h))
      have Bxr1y4 := Lib.hid hbr1_4
      have Bxr1y5 := Lib.hid hbr1_5
      have HU1 := Lib.hid (HU0.out.drew.trans hupd)
      clear hupd
      have hf0 : left #[true, true, true, true, true, true, false, false] 8 = 2 := by kernel_rfl
      have hf1 : left #[true, true, true, true, true, true, false, false] 8 ≤ fuel := hf
      obtain ⟨fu, rfl⟩ : ∃ fu, fuel = fu + 2 := ⟨fuel - 2, by omega⟩
      clear hf hf0 hf1
      refine wpAny_storeQ 6 rfl (by kernel_rfl) rfl rfl 39 (.tmp 5) (.tmp 9) rfl br1_4 0 5 rfl ar1_1 rfl 39 zr1_4 Bxr1y4.out szE hCr1_1.size (by rw [hzr1_4.size]; exact Nat.le_of_ble_eq_true rfl) hCr1_1.one' ?_
      intro ws1_0 hs1_0 hus1_0
      rw [splice_all _ _ 5 hzr1_4.size hCr1_1.size] at hs1_0
      have Bxr0y0_s1_0 := Lib.hid (hus1_0.blk Bxr0y0_1.out (fun e => hner1_4_Bxr0y0.out e.symm))
      have Bxr0y1_s1_0 := Lib.hid (hus1_0.blk Bxr0y1_1.out (fun e => hner1_4_Bxr0y1.out e.symm))
      have Bxr0y2_s1_0 := Lib.hid (hus1_0.blk Bxr0y2_1.out (fun e => hner1_4_Bxr0y2.out e.symm))
      have Bxr1y5_s1_0 := Lib.hid (hus1_0.blk Bxr1y5.out (fun e => hner1_4_r1_5.out e.symm))
      have Bxr1y4_s1_0 := Lib.hid hs1_0
      have HU1_0 := Lib.hid (HU1.out.step hus1_0 (fun i hi h => absurd hi (Nat.not_lt.2 (h.symm ▸ hger1_4.out))))
      clear hs1_0 hus1_0
      refine wpAny_storeQ 7 rfl (by kernel_rfl) rfl rfl 39 (.tmp 6) (.tmp 11) rfl br1_5 0 5 rfl ar1_3 rfl 39 zr1_5 Bxr1y5_s1_0.out szE hCr1_3.size (by rw [hzr1_5.size]; exact Nat.le_of_ble_eq_true rfl) hCr1_3.one' ?_
      intro ws1_1 hs1_1 hus1_1
      rw [splice_all _ _ 5 hzr1_5.size hCr1_3.size] at hs1_1
      have Bxr0y0_s1_1 := Lib.hid (hus1_1.blk Bxr0y0_s1_0.out (fun e => hner1_5_Bxr0y0.out e.symm))
      have Bxr0y1_s1_1 := Lib.hid (hus1_1.blk Bxr0y1_s1_0.out (fun e => hner1_5_Bxr0y1.out e.symm))
      have Bxr0y2_s1_1 := Lib.hid (hus1_1.blk Bxr0y2_s1_0.out (fun e => hner1_5_Bxr0y2.out e.symm))
      have Bxr1y4_s1_1 := Lib.hid (hus1_1.blk Bxr1y4_s1_0.out (fun e => hner1_4_r1_5.out e))
      have Bxr1y5_s1_1 := Lib.hid hs1_1
      have HU1_1 := Lib.hid (HU1_0.out.step hus1_1 (fun i hi h => absurd hi (Nat.not_lt.2 (h.symm ▸ hger1_5.out))))
      clear hs1_1 hus1_1
      refine wpAny_done (by kernel_rfl) ?_ _
      refine hK1 _ _ ?_
      clear hK1
      refine wp_seq_k fun K2 hK2 => ?_
      refine wp_region_qS 4 #[true, true, true, true, false] [4] ([.val (.agg ar1_1), .val (.agg ar1_3), .like (IsC 5 RE [(x * x) - (y * y)]), .blk ptrTo 39 (Ch 5 RE [0]), .val undef] : List SQ) (by kernel_rfl) (by kernel_rfl) (by kernel_rfl) ?_ ?_
      · intro i o listed an wn ho hls hst hun hdep hI hpre K' hK'
        have hi : i = 0 ∨ i = 1 ∨ i = 2 ∨ i = 3 ∨ False := slot_cases (l := [0, 1, 2, 3]) rfl ho hst
        rcases hi with rfl | rfl | rfl | rfl | hi
        · obtain rfl := Option.some.inj ho
          have hvp : an.eval (.tmp 5) = ptrTo br1_4 := hI.oldQ (by kernel_rfl) rfl
          exact hI.pureQ (by kernel_rfl) hls rfl rfl rfl _ (run_loadQ rfl hvp wn (hI.upd.blk (show Blk ws1_1 br1_4 39 ar1_1 from Bxr1y4_s1_1.out) (fun h => h)) Tryd.underlying39 rfl szE (by rw [hCr1_1.size]; exact Nat.le_of_ble_eq_true rfl)) (.val (.agg ar1_1)) rfl (congrArg Value.agg (extract_all _ 5 hCr1_1.size)) rfl hK'
        · obtain rfl := Option.some.inj ho
          have hvp : an.eval (.tmp 6) = ptrTo br1_5 := hI.oldQ (by kernel_rfl) rfl
          exact hI.pureQ (by kernel_rfl) hls rfl rfl rfl _ (run_loadQ rfl hvp wn (hI.upd.blk (show Blk ws1_1 br1_5 39 ar1_3 from Bxr1y5_s1_1.out) (fun h => h)) Tryd.underlying39 rfl szE (by rw [hCr1_3.size]; exact Nat.le_of_ble_eq_true rfl)) (.val (.agg ar1_3)) rfl (congrArg Value.agg (extract_all _ 5 hCr1_3.size)) rfl hK'
        · obtain rfl := Option.some.inj ho
          obtain ⟨vp, hvp, hsp⟩ := hI.haveQ 0 _ 12 (.val (.agg ar1_1)) rfl rfl rfl (hdep ⟨0, .data⟩ (by simp) rfl)
          obtain rfl := hsp
          obtain ⟨vq, hvq, hsq⟩ := hI.haveQ 1 _ 13 (.val (.agg ar1_3)) rfl rfl rfl (hdep ⟨1, .data⟩ (by simp) rfl)
          obtain rfl := hsq
          exact hI.callQ (by kernel_rfl) hls rfl rfl rfl 46 #[.tmp 12, .tmp 13] _ rfl #[.agg ar1_1, .agg ar1_3] (by simp [eval_of hvp, eval_of hvq]) (run_enter Tryd.func46 (by kernel_rfl) (by kernel_rfl)) (.like (IsC 5 RE [(x * x) - (y * y)])) rfl rfl ((subE (HT.out.upd (HU1_1.out.trans hI.upd)) hCr1_1 hCr1_3).mono fun _ _ h => h.sq) hK'
        · obtain rfl := Option.some.inj ho
          exact hI.newQ (by kernel_rfl) hls (Nat.le_refl _) (newsQ_spec (l := [3]) (by kernel_rfl) ⟨⟨_, _, rfl⟩, trivial⟩) rfl rfl rfl 39 zE _ (run_allocQ rfl zE_run wn) rfl zE_ch hK'
        · exact hi.elim
      · intro an w3 hI
        obtain ⟨vr2_0, hvr2_0, hsr2_0⟩ := hI.haveQ 0 _ 12 (.val (.agg ar1_1)) rfl rfl rfl rfl
        obtain rfl := hsr2_0
        obtain ⟨vr2_1, hvr2_1, hsr2_1⟩ := hI.haveQ 1 _ 13 (.val (.agg ar1_3)) rfl rfl rfl rfl
        obtain rfl := hsr2_1
        obtain ⟨vr2_2, hvr2_2, ar2_2, rfl, hCr2_2⟩ := hI.haveQ 2 _ 14 (.like (IsC 5 RE [(x * x) - (y * y)])) rfl rfl rfl rfl
        obtain ⟨vr2_3, hvr2_3, br2_3, zr2_3, rfl, hnr2_3, hbr2_3, hzr2_3⟩ := hI.haveQ 3 _ 7 (.blk ptrTo 39 (Ch 5 RE [0])) rfl rfl rfl rfl
        have hupd := hI.upd
        have ha := hI.act [(12, .agg ar1_1), (13, .agg ar1_3), (14, .agg ar2_2), (7, ptrTo br2_3)] (by simp [hvr2_0, hvr2_1, hvr2_2, hvr2_3]) (by kernel_rfl)
        clear hI hvr2_0 hvr2_1 hvr2_2 hvr2_3
        subst ha
        simp only [List.foldl_cons, List.foldl_nil, List.setIfInBounds_toArray, List.set_cons_zero, List.set_cons_succ]
        have hner2_3_Bxr0y0_s1_1 := Lib.hid (show br2_3 ≠ br0_0 from Nat.ne_of_gt (Nat.lt_of_lt_of_le Bxr0y0_s1_1.out.lt hnr2_3))
        have hner2_3_Bxr0y1_s1_1 := Lib.hid (show br2_3 ≠ br0_1 from Nat.ne_of_gt (Nat.lt_of_lt_of_le Bxr0y1_s1_1.out.lt hnr2_3))
        have hner2_3_Bxr0y2_s1_1 := Lib.hid (show br2_3 ≠ br0_2 from Nat.ne_of_gt (Nat.lt_of_lt_of_le Bxr0y2_s1_1.out.lt hnr2_3))
        have hner2_3_Bxr1y4_s1_1 := Lib.hid (show br2_3 ≠ br1_4 from Nat.ne_of_gt (Nat.lt_of_lt_of_le Bxr1y4_s1_1.out.lt hnr2_3))
        have hner2_3_Bxr1y5_s1_1 := Lib.hid (show br2_3 ≠ br1_5 from Nat.ne_of_gt (Nat.lt_of_lt_of_le Bxr1y5_s1_1.out.lt hnr2_3))
        have hger2_3 := Lib.hid (Nat.le_trans HU1_1.out.size hnr2_3)
        have Bxr0y0_2 := Lib.hid (hupd.blk (show Blk ws1_1 br0_0 39 zr0_0 from Bxr0y0_s1_1.out) (fun h => h))
        have Bxr0y1_2 := Lib.hid (hupd.blk (show Blk ws1_1 br0_1 39 zr0_1 from Bxr0y1_s1_1.out) (fun h => h))
        have Bxr0y2_2 := Lib.hid (hupd.blk (show Blk ws1_1 br0_2 72 zr0_2 from Bxr0y2_s1_1.out) (fun h => h))
        have Bxr1y4_2 := Lib.hid (hupd.blk (show Blk ws1_1 br1_4 39 ar1_1 from Bxr1y4_s1_1.out) (fun h => h))
        have Bxr1y5_2 := Lib.hid (hupd.blk (show Blk ws1_1 br1_5 39 ar1_3 from Bxr1y5_s1_1.out) (fun h => h))
        have Bxr2y3 := Lib.hid hbr2_3
        have HU2 := Lib.hid (HU1_1.out.trans hupd)
        clear hupd
        refine wpOps_storeQ 4 rfl rfl rfl 39 (.tmp 7) (.tmp 14) rfl br2_3 0 5 rfl ar2_2 rfl 39 zr2_3 Bxr2y3.out szE hCr2_2.size (by rw [hzr2_3.size]; exact Nat.le_of_ble_eq_true rfl) hCr2_2.one' ?_
        intro ws2_0 hs2_0 hus2_0
        rw [splice_all _ _ 5 hzr2_3.size hCr2_2.size] at hs2_0
        have Bxr0y0_s2_0 := Lib.hid (hus2_0.blk Bxr0y0_2.out (fun e => hner2_3_Bxr0y0_s1_1.out e.symm))
        have Bxr0y1_s2_0 := Lib.hid (hus2_0.blk Bxr0y1_2.out (fun e => hner2_3_Bxr0y1_s1_1.out e.symm))
        have Bxr0y2_s2_0 := Lib.hid (hus2_0.blk Bxr0y2_2.out (fun e => hner2_3_Bxr0y2_s1_1.out e.symm))
        have Bxr1y4_s2_0 := Lib.hid (hus2_0.blk Bxr1y4_2.out (fun e => hner2_3_Bxr1y4_s1_1.out e.symm))
        have Bxr1y5_s2_0 := Lib.hid (hus2_0.blk Bxr1y5_2.out (fun e => hner2_3_Bxr1y5_s1_1.out e.symm))
        have Bxr2y3_s2_0 := Lib.hid hs2_0
        have HU2_0 := Lib.hid (HU2.out.step hus2_0 (fun i hi h => absurd hi (Nat.not_lt.2 (h.symm ▸ hger2_3.out))))
        clear hs2_0 hus2_0
        refine wpOps_nil ?_
        refine hK2 _ _ ?_
        clear hK2
        refine wp_seq_k fun K3 hK3 => ?_
        refine wp_region_q #[true, true, true, true, true, true, true, true, true, true, true, true, false] ([.val (.agg ar1_1), .val (.agg ar1_3), .like (IsC 5 RE [(x * x) * (y * y)]), .val (.agg ar2_2), .val (.agg ar1_1), .like (IsC 5 RE [fv 121665]), .val (.agg ar2_2), .like (IsC 5 RE [(fv 121665) * ((x * x) - (y * y))]), .blk (fun b => .slice (some ⟨b, 0, none⟩) 2 2) 39 (Ch 5 RE [x * x, (fv 121665) * ((x * x) - (y * y))]), .like (IsC 5 RE [(x * x) + ((fv 121665) * ((x * x) - (y * y)))]), .like (IsC 5 RE [((x * x) - (y * y)) * ((x * x) + ((fv 121665) * ((x * x) - (y * y))))]), .like (IsC 5 RE [(x * x) * (y * y), ((x * x) - (y * y)) * ((x * x) + ((fv 121665) * ((x * x) - (y * y))))]), .val undef] : List SQ) (by kernel_rfl) (by kernel_rfl) (by kernel_rfl) ?_ ?_
        · intro i o listed an wn ho hls hst hun hdep hI K' hK'
          have hi : i = 0 ∨ i = 1 ∨ i = 2 ∨ i = 3 ∨ i = 4 ∨ i = 5 ∨ i = 6 ∨ i = 7 ∨ i = 8 ∨ i = 9 ∨ i = 10 ∨ i = 11 ∨ False := slot_cases (l := [0, 1, 2, 3, 4, 5, 6, 7, 8, 9, 10, 11]) rfl ho hst
          rcases hi with rfl | rfl | rfl | rfl | rfl | rfl | rfl | rfl | rfl | rfl | rfl | rfl | hi
          · obtain rfl := Option.some.inj ho
            have hvp : an.eval (.tmp 5) = ptrTo br1_4 := hI.oldQ (by kernel_rfl) rfl
            exact hI.pureQ (by kernel_rfl) hls rfl rfl rfl _ (run_loadQ rfl hvp wn (hI.upd.blk (show Blk ws2_0.drew br1_4 39 ar1_1 from Bxr1y4_s2_0.out) (fun h => h)) Tryd.underlying39 rfl szE (by rw [hCr1_1.size]; exact Nat.le_of_ble_eq_true rfl)) (.val (.agg ar1_1)) rfl (congrArg Value.agg (extract_all _ 5 hCr1_1.size)) rfl hK'
          · obtain rfl := Option.some.inj ho
            have hvp : an.eval (.tmp 6) = ptrTo br1_5 := hI.oldQ (by kernel_rfl) rfl
            exact hI.pureQ (by kernel_rfl) hls rfl rfl rfl _ (run_loadQ rfl hvp wn (hI.upd.blk (show Blk ws2_0.drew br1_5 39 ar1_3 from Bxr1y5_s2_0.out) (fun h => h)) Tryd.underlying39 rfl szE (by rw [hCr1_3.size]; exact Nat.le_of_ble_eq_true rfl)) (.val (.agg ar1_3)) rfl (congrArg Value.agg (extract_all _ 5 hCr1_3.size)) rfl hK'
          · obtain rfl := Option.some.inj ho
            obtain ⟨vp, hvp, hsp⟩ := hI.haveQ 0 _ 15 (.val (.agg ar1_1)) rfl rfl rfl (hdep ⟨0, .data⟩ (by simp) rfl)
            obtain rfl := hsp
            obtain ⟨vq, hvq, hsq⟩ := hI.haveQ 1 _ 16 (.val (.agg ar1_3)) rfl rfl rfl (hdep ⟨1, .data⟩ (by simp) rfl)
            obtain rfl := hsq
            exact hI.callQ (by kernel_rfl) hls rfl rfl rfl 44 #[.tmp 15, .tmp 16] _ rfl #[.agg ar1_1, .agg ar1_3] (by simp [eval_of hvp, eval_of hvq]) (run_enter Tryd.func44 (by kernel_rfl) (by kernel_rfl)) (.like (IsC 5 RE [(x * x) * (y * y)])) rfl rfl ((mulE hCr1_1 hCr1_3).mono fun _ _ h => h.sq) hK'
          · obtain rfl := Option.some.inj ho
            have hvp : an.eval (.tmp 7) = ptrTo br2_3 := hI.oldQ (by kernel_rfl) rfl
            exact hI.pureQ (by kernel_rfl) hls rfl rfl rfl _ (run_loadQ rfl hvp wn (hI.upd.blk (show Blk ws2_0.drew br2_3 39 ar2_2 from Bxr2y3_s2_0.out) (fun h => h)) Tryd.underlying39 rfl szE (by rw [hCr2_2.size]; exact Nat.le_of_ble_eq_true rfl)) (.val (.agg ar2_2)) rfl (congrArg Value.agg (extract_all _ 5 hCr2_2.size)) rfl hK'
          · obtain rfl := Option.some.inj ho
            have hvp : an.eval (.tmp 5) = ptrTo br1_4 := hI.oldQ (by kernel_rfl) rfl
            exact hI.pureQ (by kernel_rfl) hls rfl rfl rfl _ (run_loadQ rfl hvp wn (hI.upd.blk (show Blk ws2_0.drew br1_4 39 ar1_1 from Bxr1y4_s2_0.out) (fun h => h)) Tryd.underlying39 rfl szE (by rw [hCr1_1.size]; exact Nat.le_of_ble_eq_true rfl)) (.val (.agg ar1_1)) rfl (congrArg Value.agg (extract_all _ 5 hCr1_1.size)) rfl hK'
          · obtain rfl := Option.some.inj ho
            exact hI.callQ (by kernel_rfl) hls rfl rfl rfl 43 #[.const (.int .u32 121665)] _ rfl #[.int .u32 121665] (by simp [Act.eval]) (run_enter Tryd.func43 (by kernel_rfl) (by kernel_rfl)) (.like (IsC 5 RE [fv 121665])) rfl rfl ((smallE 121665 (by decide) (by decide)).mono fun _ _ h => h.sq) hK'
          · obtain rfl := Option.some.inj ho
            have hvp : an.eval (.tmp 7) = ptrTo br2_3 := hI.oldQ (by kernel_rfl) rfl
            exact hI.pureQ (by kernel_rfl) hls rfl rfl rfl _ (run_loadQ rfl hvp wn (hI.upd.blk (show Blk ws2_0.drew br2_3 39 ar2_2 from Bxr2y3_s2_0.out) (fun h => h)) Tryd.underlying39 rfl szE (by rw [hCr2_2.size]; exact Nat.le_of_ble_eq_true rfl)) (.val (.agg ar2_2)) rfl (congrArg Value.agg (extract_all _ 5 hCr2_2.size)) rfl hK'
          · obtain rfl := Option.some.inj ho
            obtain ⟨vp, hvp, ap, rfl, hCp⟩ := hI.haveQ 5 _ 20 (.like (IsC 5 RE [fv 121665])) rfl rfl rfl (hdep ⟨5, .data⟩ (by simp) rfl)
            obtain ⟨vq, hvq, hsq⟩ := hI.haveQ 6 _ 21 (.val (.agg ar2_2)) rfl rfl rfl (hdep ⟨6, .data⟩ (by simp) rfl)
            obtain rfl := hsq
            exact hI.callQ (by kernel_rfl) hls rfl rfl rfl 44 #[.tmp 20, .tmp 21] _ rfl #[.agg ap, .agg ar2_2] (by simp [eval_of hvp, eval_of hvq]) (run_enter Tryd.func44 (by kernel_rfl) (by kernel_rfl)) (.like (IsC 5 RE [(fv 121665) * ((x * x) - (y * y))])) rfl rfl ((mulE hCp hCr2_2).mono fun _ _ h => h.sq) hK'
          · obtain rfl := Option.some.inj ho
            obtain ⟨vp, hvp, hsp⟩ := hI.haveQ 4 _ 19 (.val (.agg ar1_1)) rfl rfl rfl (hdep ⟨4, .data⟩ (by simp) rfl)
            obtain rfl := hsp
            obtain ⟨vq, hvq, aq, rfl, hCq⟩ := hI.haveQ 7 _ 22 (.like (IsC 5 RE [(fv 121665) * ((x * x) - (y * y))])) rfl rfl rfl (hdep ⟨7, .data⟩ (by simp) rfl)
            exact hI.rowQ (by kernel_rfl) hls (Nat.le_refl _) rfl rfl rfl _ _ _ _ (run_pairQ rfl (eval_of hvp) (eval_of hvq) hCr1_1.size hCq.size wn) rfl (hCr1_1.cat hCq) rfl hK'
          · obtain rfl := Option.some.inj ho
            obtain ⟨vp, hvp, bp, zp, rfl, hnp, hbp, hzp⟩ := hI.haveQ 8 _ 23 (.blk (fun b => .slice (some ⟨b, 0, none⟩) 2 2) 39 (Ch 5 RE [x * x, (fv 121665) * ((x * x) - (y * y))])) rfl rfl rfl (hdep ⟨8, .data⟩ (by simp) rfl)
            exact hI.callQ (by kernel_rfl) hls rfl rfl rfl 45 #[.tmp 23] _ rfl #[.slice (some ⟨bp, 0, none⟩) 2 2] (by simp [eval_of hvp]) (run_enter Tryd.func45 (by kernel_rfl) (by kernel_rfl)) (.like (IsC 5 RE [(x * x) + ((fv 121665) * ((x * x) - (y * y)))])) rfl rfl ((addE hbp hzp).mono fun _ _ h => h.sq) hK'
          · obtain rfl := Option.some.inj ho
            obtain ⟨vp, hvp, hsp⟩ := hI.haveQ 3 _ 18 (.val (.agg ar2_2)) rfl rfl rfl (hdep ⟨3, .data⟩ (by simp) rfl)
            obtain rfl := hsp
            obtain ⟨vq, hvq, aq, rfl, hCq⟩ := hI.haveQ 9 _ 24 (.like (IsC 5 RE [(x * x) + ((fv 121665) * ((x * x) - (y * y)))])) rfl rfl rfl (hdep ⟨9, .data⟩ (by simp) rfl)
            exact hI.callQ (by kernel_rfl) hls rfl rfl rfl 44 #[.tmp 18, .tmp 24] _ rfl #[.agg ar2_2, .agg aq] (by simp [eval_of hvp, eval_of hvq]) (run_enter Tryd.func44 (by kernel_rfl) (by kernel_rfl)) (.like (IsC 5 RE [((x * x) - (y * y)) * ((x * x) + ((fv 121665) * ((x * x) - (y * y))))])) rfl rfl ((mulE hCr2_2 hCq).mono fun _ _ h => h.sq) hK'
          · obtain rfl := Option.some.inj ho
            obtain ⟨vp, hvp, ap, rfl, hCp⟩ := hI.haveQ 2 _ 17 (.like (IsC 5 RE [(x * x) * (y * y)])) rfl rfl rfl (hdep ⟨2, .data⟩ (by simp) rfl)
            obtain ⟨vq, hvq, aq, rfl, hCq⟩ := hI.haveQ 10 _ 25 (.like (IsC 5 RE [((x * x) - (y * y)) * ((x * x) + ((fv 121665) * ((x * x) - (y * y))))])) rfl rfl rfl (hdep ⟨10, .data⟩ (by simp) rfl)
            exact hI.pureQ (by kernel_rfl) hls rfl rfl rfl _ (run_buildRatio rfl (eval_of hvp) (eval_of hvq) hCp.size hCq.size wn) (.like (IsC 5 RE [(x * x) * (y * y), ((x * x) - (y * y)) * ((x * x) + ((fv 121665) * ((x * x) - (y * y))))])) rfl ⟨_, rfl, (hCp.cat hCq)⟩ rfl hK'
          · exact hi.elim
        · intro fuel an w4 hf hI
          obtain ⟨vr3_0, hvr3_0, hsr3_0⟩ := hI.haveQ 0 _ 15 (.val (.agg ar1_1)) rfl rfl rfl rfl
          obtain rfl := hsr3_0
          obtain ⟨vr3_1, hvr3_1, hsr3_1⟩ := hI.haveQ 1 _ 16 (.val (.agg ar1_3)) rfl rfl rfl rfl
          obtain rfl := hsr3_1
          obtain ⟨vr3_2, hvr3_2, ar3_2, rfl, hCr3_2⟩ := hI.haveQ 2 _ 17 (.like (IsC 5 RE [(x * x) * (y * y)])) rfl rfl rfl rfl
          obtain ⟨vr3_3, hvr3_3, hsr3_3⟩ := hI.haveQ 3 _ 18 (.val (.agg ar2_2)) rfl rfl rfl rfl
          obtain rfl := hsr3_3
          obtain ⟨vr3_4, hvr3_4, hsr3_4⟩ := hI.haveQ 4 _ 19 (.val (.agg ar1_1)) rfl rfl rfl rfl
          obtain rfl := hsr3_4
          obtain ⟨vr3_5, hvr3_5, ar3_5, rfl, hCr3_5⟩ := hI.haveQ 5 _ 20 (.like (IsC 5 RE [fv 121665])) rfl rfl rfl rfl
          obtain ⟨vr3_6, hvr3_6, hsr3_6⟩ := hI.haveQ 6 _ 21 (.val (.agg ar2_2)) rfl rfl rfl rfl
          obtain rfl := hsr3_6
          obtain ⟨vr3_7, hvr3_7, ar3_7, rfl, hCr3_7⟩ := hI.haveQ 7 _ 22 (.like (IsC 5 RE [(fv 121665) * ((x * x) - (y * y))])) rfl rfl rfl rfl
          obtain ⟨vr3_8, hvr3_8, br3_8, zr3_8, rfl, hnr3_8, hbr3_8, hzr3_8⟩ := hI.haveQ 8 _ 23 (.blk (fun b => .slice (some ⟨b, 0, none⟩) 2 2) 39 (Ch 5 RE [x * x, (fv 121665) * ((x * x) - (y * y))])) rfl rfl rfl rfl
          obtain ⟨vr3_9, hvr3_9, ar3_9, rfl, hCr3_9⟩ := hI.haveQ 9 _ 24 (.like (IsC 5 RE [(x * x) + ((fv 121665) * ((x * x) - (y * y)))])) rfl rfl rfl rfl
          obtain ⟨vr3_10, hvr3_10, ar3_10, rfl, hCr3_10⟩ := hI.haveQ 10 _ 25 (.like (IsC 5 RE [((x * x) - (y * y)) * ((x * x) + ((fv 121665) * ((x * x) - (y * y))))])) rfl rfl rfl rfl
          obtain ⟨vr3_11, hvr3_11, ar3_11, rfl, hCr3_11⟩ := hI.haveQ 11 _ 26 (.like (IsC 5 RE [(x * x) * (y * y), ((x * x) - (y * y)) * ((x * x) + ((fv 121665) * ((x * x) - (y * y))))])) rfl rfl rfl rfl
          have hupd := hI.upd
          have ha := hI.act [(15, .agg ar1_1), (16, .agg ar1_3), (17, .agg ar3_2), (18, .agg ar2_2), (19, .agg ar1_1), (20, .agg ar3_5), (21, .agg ar2_2), (22, .agg ar3_7), (23, .slice (some ⟨br3_8, 0, none⟩) 2 2), (24, .agg ar3_9), (25, .agg ar3_10), (26, .agg ar3_11)] (by simp [hvr3_0, hvr3_1, hvr3_2, hvr3_3, hvr3_4, hvr3_5, hvr3_6, hvr3_7, hvr3_8, hvr3_9, hvr3_10, hvr3_11]) (by kernel_rfl)
          clear hI hvr3_0 hvr3_1 hvr3_2 hvr3_3 hvr3_4 hvr3_5 hvr3_6 hvr3_7 hvr3_8 hvr3_9 hvr3_10 hvr3_11
          subst ha
          simp only [List.foldl_cons, List.foldl_nil, List.setIfInBounds_toArray, List.set_cons_zero, List.set_cons_succ]
          have Bxr0y0_3 := Lib.hid (hupd.blk (show Blk ws2_0.drew br0_0 39 zr0_0 from Bxr0y0_s2_0.out) (fun h => h))
          have Bxr0y1_3 := Lib.hid (hupd.blk (show Blk ws2_0.drew br0_1 39 zr0_1 from Bxr0y1_s2_0.out) (fun h => h))
          have Bxr0y2_3 := Lib.hid (hupd.blk (show Blk ws2_0.drew br0_2 72 zr0_2 from Bxr0y2_s2_0.out) (fun h => h))
          have Bxr1y4_3 := Lib.hid (hupd.blk (show Blk ws2_0.drew br1_4 39 ar1_1 from Bxr1y4_s2_0.out) (fun h => h))
          have Bxr1y5_3 := Lib.hid (hupd.blk (show Blk ws2_0.drew br1_5 39 ar1_3 from Bxr1y5_s2_0.out) (fun h => h))
          have Bxr2y3_3 := Lib.hid (hupd.blk (show Blk ws2_0.drew br2_3 39 ar2_2 from Bxr2y3_s2_0.out) (fun h => h))
          have HU3 := Lib.hid (HU2_0.out.drew.trans hupd)
          clear hupd
          have hf0 : left #[true, true, true, true, true, true, true, true, true, true, true, true, false] 13 = 1 := by kernel_rfl
          have hf1 : left #[true, true, true, true, true, true, true, true, true, true, true, true, false] 13 ≤ fuel := hf
          obtain ⟨fu, rfl⟩ : ∃ fu, fuel = fu + 1 := ⟨fuel - 1, by omega⟩
          clear hf hf0 hf1
          refine wpAny_storeQ 12 rfl (by kernel_rfl) rfl rfl 72 (.tmp 4) (.tmp 26) rfl br0_2 0 10 rfl ar3_11 rfl 72 zr0_2 Bxr0y2_3.out szRatio hCr3_11.size (by rw [hzr0_2.size]; exact Nat.le_of_ble_eq_true rfl) hCr3_11.one' ?_
          intro ws3_0 hs3_0 hus3_0
          rw [splice_all _ _ 10 hzr0_2.size hCr3_11.size] at hs3_0
          have Bxr0y0_s3_0 := Lib.hid (hus3_0.blk Bxr0y0_3.out (fun e => hner0_0_r0_2.out e))
          have Bxr0y1_s3_0 := Lib.hid (hus3_0.blk Bxr0y1_3.out (fun e => hner0_1_r0_2.out e))
          have Bxr1y4_s3_0 := Lib.hid (hus3_0.blk Bxr1y4_3.out (fun e => hner1_4_Bxr0y2.out e))
          have Bxr1y5_s3_0 := Lib.hid (hus3_0.blk Bxr1y5_3.out (fun e => hner1_5_Bxr0y2.out e))
          have Bxr2y3_s3_0 := Lib.hid (hus3_0.blk Bxr2y3_3.out (fun e => hner2_3_Bxr0y2_s1_1.out e))
          have Bxr0y2_s3_0 := Lib.hid hs3_0
          have HU3_0 := Lib.hid (HU3.out.step hus3_0 (fun i hi h => absurd hi (Nat.not_lt.2 (h.symm ▸ hger0_2.out))))
          clear hs3_0 hus3_0
          refine wpAny_done (by kernel_rfl) ?_ _
          refine hK3 _ _ ?_
          clear hK3
          refine wp_ret ?_
          try dsimp only [Exit.then]
          try dsimp only [Exit.inBlock]
          exact bodyPost_ret (v := .agg ar3_11) (results_cell_row (fn := Tryd.f86) (p := 4) (ty := 72) rfl _ _ br0_2 72 _ (0, 0) _ rfl Bxr0y2_s3_0.out Tryd.underlying72 rfl (by rw [hCr3_11.size]; exact szRatio)) rfl ⟨_, rfl, hCr3_11, HU3_0.out⟩
set_option maxHeartbeats 4000000 in
theorem stepL {x1 z1 x2 z2 u : Fp} {a b c : Array Value} (w : World) (hT : Tw w) (ha : Ch 5 RE [x1, z1] a) (hb : Ch 5 RE [x2, z2] b) (hc : Ch 5 RE [u] c) :
    Calls Tryd.prog 51 #[.agg a, .agg b, .agg c] w (RetC2 5 RE [(x1 + z1) * (x1 + z1) * ((x1 - z1) * (x1 - z1)), ((x1 + z1) * (x1 + z1) - (x1 - z1) * (x1 - z1)) * ((x1 + z1) * (x1 + z1) + fv 121665 * ((x1 + z1) * (x1 + z1) - (x1 - z1) * (x1 - z1)))] [(((x1 - z1) * (x2 + z2)) + ((x1 + z1) * (x2 - z2))) * (((x1 - z1) * (x2 + z2)) + ((x1 + z1) * (x2 - z2))), u * ((((x1 - z1) * (x2 + z2)) - ((x1 + z1) * (x2 - z2))) * (((x1 - z1) * (x2 + z2)) - ((x1 + z1) * (x2 - z2))))] w) := by
  have HT := Lib.hid hT
  clear hT
  have HU := Lib.hid (Upd.refl (fun _ => False) w)
  go_enter Tryd.func51, Tryd.ntmps51
  refine wp_seq_k fun K0 hK0 => ?_
  refine wp_region_qS 5 #[true, true, true, true, true] [] ([.blk ptrTo 72 (Ch 5 RE [x1, z1]), .blk ptrTo 72 (Ch 5 RE [x2, z2]), .blk ptrTo 39 (Ch 5 RE [u]), .blk ptrTo 72 (Ch 5 RE [0, 0]), .blk ptrTo 72 (Ch 5 RE [0, 0])] : List SQ) (by kernel_rfl) (by kernel_rfl) (by kernel_rfl) ?_ ?_
  · intro i o listed an wn ho hls hst hun hdep hI hpre K' hK'
    have hi : i = 0 ∨ i = 1 ∨ i = 2 ∨ i = 3 ∨ i = 4 ∨ False := slot_cases (l := [0, 1, 2, 3, 4]) rfl ho hst
    rcases hi with rfl | rfl | rfl | rfl | rfl | hi
    · obtain rfl := Option.some.inj ho
      have hvp : an.eval (.tmp 0) = .agg a := hI.oldQ (by kernel_rfl) rfl
      exact hI.newQ (by kernel_rfl) hls (Nat.le_refl _) (newsQ_spec (l := [0, 1, 2, 3, 4]) (by kernel_rfl) ⟨⟨_, _, rfl⟩, ⟨_, _, rfl⟩, ⟨_, _, rfl⟩, ⟨_, _, rfl⟩, ⟨_, _, rfl⟩, trivial⟩) rfl rfl rfl 72 a _ (run_boxQ rfl hvp wn) rfl ha hK'
    · obtain rfl := Option.some.inj ho
      have hvp : an.eval (.tmp 1) = .agg b := hI.oldQ (by kernel_rfl) rfl
      exact hI.newQ (by kernel_rfl) hls (Nat.le_refl _) (newsQ_spec (l := [0, 1, 2, 3, 4]) (by kernel_rfl) ⟨⟨_, _, rfl⟩, ⟨_, _, rfl⟩, ⟨_, _, rfl⟩, ⟨_, _, rfl⟩, ⟨_, _, rfl⟩, trivial⟩) rfl rfl rfl 72 b _ (run_boxQ rfl hvp wn) rfl hb hK'
    · obtain rfl := Option.some.inj ho
      have hvp : an.eval (.tmp 2) = .agg c := hI.oldQ (by kernel_rfl) rfl
      exact hI.newQ (by kernel_rfl) hls (Nat.le_refl _) (newsQ_spec (l := [0, 1, 2, 3, 4]) (by kernel_rfl) ⟨⟨_, _, rfl⟩, ⟨_, _, rfl⟩, ⟨_, _, rfl⟩, ⟨_, _, rfl⟩, ⟨_, _, rfl⟩, trivial⟩) rfl rfl rfl 39 c _ (run_boxQ rfl hvp wn) rfl hc hK'
    · obtain rfl := Option.some.inj ho
      exact hI.newQ (by kernel_rfl) hls (Nat.le_refl _) (newsQ_spec (l := [0, 1, 2, 3, 4]) (by kernel_rfl) ⟨⟨_, _, rfl⟩, ⟨_, _, rfl⟩, ⟨_, _, rfl⟩, ⟨_, _, rfl⟩, ⟨_, _, rfl⟩, trivial⟩) rfl rfl rfl 72 zRatio _ (run_allocQ rfl zRatio_run wn) rfl zRatio_ch hK'
    · obtain rfl := Option.some.inj ho
      exact hI.newQ (by kernel_rfl) hls (Nat.le_refl _) (newsQ_spec (l := [0, 1, 2, 3, 4]) (by kernel_rfl) ⟨⟨_, _, rfl⟩, ⟨_, _, rfl⟩, ⟨_, _, rfl⟩, ⟨_, _, rfl⟩, ⟨_, _, rfl⟩, trivial⟩) rfl rfl rfl 72 zRatio _ (run_allocQ rfl zRatio_run wn) rfl zRatio_ch hK'
    · exact hi.elim
  · intro an w1 hI
    obtain ⟨vr0_0, hvr0_0, br0_0, zr0_0, rfl, hnr0_0, hbr0_0, hzr0_0⟩ := hI.haveQ 0 _ 3 (.blk ptrTo 72 (Ch 5 RE [x1, z1])) rfl rfl rfl rfl
    obtain ⟨vr0_1, hvr0_1, br0_1, zr0_1, rfl, hnr0_1, hbr0_1, hzr0_1⟩ := hI.haveQ 1 _ 4 (.blk ptrTo 72 (Ch 5 RE [x2, z2])) rfl rfl rfl rfl
    obtain ⟨vr0_2, hvr0_2, br0_2, zr0_2, rfl, hnr0_2, hbr0_2, hzr0_2⟩ := hI.haveQ 2 _ 5 (.blk ptrTo 39 (Ch 5 RE [u])) rfl rfl rfl rfl
    obtain ⟨vr0_3, hvr0_3, br0_3, zr0_3, rfl, hnr0_3, hbr0_3, hzr0_3⟩ := hI.haveQ 3 _ 6 (.blk ptrTo 72 (Ch 5 RE [0, 0])) rfl rfl rfl rfl
    obtain ⟨vr0_4, hvr0_4, br0_4, zr0_4, rfl, hnr0_4, hbr0_4, hzr0_4⟩ := hI.haveQ 4 _ 7 (.blk ptrTo 72 (Ch 5 RE [0, 0])) rfl rfl rfl rfl
    have hupd := hI.upd
    have hner0_0_r0_1 := Lib.hid (show br0_0 ≠ br0_1 from fun e => hI.apart 0 1 _ _ 3 4 (by omega) rfl rfl rfl rfl rfl rfl rfl rfl (by rw [hvr0_0, hvr0_1, e]))
    have hner0_0_r0_2 := Lib.hid (show br0_0 ≠ br0_2 from fun e => hI.apart 0 2 _ _ 3 5 (by omega) rfl rfl rfl rfl rfl rfl rfl rfl (by rw [hvr0_0, hvr0_2, e]))
    have hner0_0_r0_3 := Lib.hid (show br0_0 ≠ br0_3 from fun e => hI.apart 0 3 _ _ 3 6 (by omega) rfl rfl rfl rfl rfl rfl rfl rfl (by rw [hvr0_0, hvr0_3, e]))
    have hner0_0_r0_4 := Lib.hid (show br0_0 ≠ br0_4 from fun e => hI.apart 0 4 _ _ 3 7 (by omega) rfl rfl rfl rfl rfl rfl rfl rfl (by rw [hvr0_0, hvr0_4, e]))
    have hner0_1_r0_2 := Lib.hid (show br0_1 ≠ br0_2 from fun e => hI.apart 1 2 _ _ 4 5 (by omega) rfl rfl rfl rfl rfl rfl rfl rfl (by rw [hvr0_1, hvr0_2, e]))
    have hner0_1_r0_3 := Lib.hid (show br0_1 ≠ br0_3 from fun e => hI.apart 1 3 _ _ 4 6 (by omega) rfl rfl rfl rfl rfl rfl rfl rfl (by rw [hvr0_1, hvr0_3, e]))
    have hner0_1_r0_4 := Lib.hid (show br0_1 ≠ br0_4 from fun e => hI.apart 1 4 _ _ 4 7 (by omega) rfl rfl rfl rfl rfl rfl rfl rfl (by rw [hvr0_1, hvr0_4, e]))
    have hner0_2_r0_3 := Lib.hid (show br0_2 ≠ br0_3 from fun e => hI.apart 2 3 _ _ 5 6 (by omega) rfl rfl rfl rfl rfl rfl rfl rfl (by rw [hvr0_2, hvr0_3, e]))
    have hner0_2_r0_4 := Lib.hid (show br0_2 ≠ br0_4 from fun e => hI.apart 2 4 _ _ 5 7 (by omega) rfl rfl rfl rfl rfl rfl rfl rfl (by rw [hvr0_2, hvr0_4, e]))
    have hner0_3_r0_4 := Lib.hid (show br0_3 ≠ br0_4 from fun e => hI.apart 3 4 _ _ 6 7 (by omega) rfl rfl rfl rfl rfl rfl rfl rfl (by rw [hvr0_3, hvr0_4, e]))
    have ha := hI.act [(3, ptrTo br0_0), (4, ptrTo br0_1), (5, ptrTo br0_2), (6, ptrTo br0_3), (7, ptrTo br0_4)] (by simp [hvr0_0, hvr0_1, hvr0_2, hvr0_3, hvr0_4]) (by kernel_rfl)
    clear hI hvr0_0 hvr0_1 hvr0_2 hvr0_3 hvr0_4
    subst ha
    simp only [List.foldl_cons, List.foldl_nil, List.setIfInBounds_toArray, List.set_cons_zero, List.set_cons_succ]
    have hger0_0 := Lib.hid (Nat.le_trans HU.out.size hnr0_0)
    have hger0_1 := Lib.hid (Nat.le_trans HU.out.size hnr0_1)
    have hger0_2 := Lib.hid (Nat.le_trans HU.out.size hnr0_2)
    have hger0_3 := Lib.hid (Nat.le_trans HU.out.size hnr0_3)
    have hger0_4 := Lib.hid (Nat.le_trans HU.out.size hnr0_4)
    have Bxr0y0 := Lib.hid hbr0_0
    have Bxr0y1 := Lib.hid hbr0_1
    have Bxr0y2 := Lib.hid hbr0_2
    have Bxr0y3 := Lib.hid hbr0_3
    have Bxr0y4 := Lib.hid hbr0_4
    have HU0 := Lib.hid (HU.out.trans hupd)
    clear hupd
    refine wpOps_nil ?_
    refine hK0 _ _ ?_
    clear hK0
    refine wp_seq_k fun K1 hK1 => ?_
    refine wp_region_q #[true, true, true, true, true, true, true, true, true, true, true, true, true, false, false] ([.val (.pointer (some ⟨br0_0, 0 + 0, none⟩)), .val (.agg (zr0_0.extract (0 + 0) (0 + 0 + 5))), .val (.pointer (some ⟨br0_0, 0 + 5, none⟩)), .val (.agg (zr0_0.extract (0 + 5) (0 + 5 + 5))), .blk (fun b => .slice (some ⟨b, 0, none⟩) 2 2) 39 (Ch 5 RE [x1, z1]), .like (IsC 5 RE [x1 + z1]), .val (.pointer (some ⟨br0_0, 0 + 0, none⟩)), .val (.agg (zr0_0.extract (0 + 0) (0 + 0 + 5))), .val (.pointer (some ⟨br0_0, 0 + 5, none⟩)), .val (.agg (zr0_0.extract (0 + 5) (0 + 5 + 5))), .like (IsC 5 RE [x1 - z1]), .blk ptrTo 39 (Ch 5 RE [0]), .blk ptrTo 39 (Ch 5 RE [0]), .val undef, .val undef] : List SQ) (by kernel_rfl) (by kernel_rfl) (by kernel_rfl) ?_ ?_
    · intro i o listed an wn ho hls hst hun hdep hI K' hK'
      have hi : i = 0 ∨ i = 1 ∨ i = 2 ∨ i = 3 ∨ i = 4 ∨ i = 5 ∨ i = 6 ∨ i = 7 ∨ i = 8 ∨ i = 9 ∨ i = 10 ∨ i = 11 ∨ i = 12 ∨ False := slot_cases (l := [0, 1, 2, 3, 4, 5, 6, 7, 8, 9, 10, 11, 12]) rfl ho hst
      rcases hi with rfl | rfl | rfl | rfl | rfl | rfl | rfl | rfl | rfl | rfl | rfl | rfl | rfl | hi
      · obtain rfl := Option.some.inj ho
        have hvp : an.eval (.tmp 3) = ptrTo br0_0 := hI.oldQ (by kernel_rfl) rfl
        exact hI.pureQ (by kernel_rfl) hls rfl rfl rfl (.pointer (some ⟨br0_0, 0 + 0, none⟩)) (run_fieldQ (g := br0_0) (off := 0) (k := 0) rfl hvp Tryd.underlying72 rfl (by rfl) szE wn) (.val (.pointer (some ⟨br0_0, 0 + 0, none⟩))) rfl rfl rfl hK'
      · obtain rfl := Option.some.inj ho
        obtain ⟨vp, hvp, hsp⟩ := hI.haveQ 0 _ 12 (.val (.pointer (some ⟨br0_0, 0 + 0, none⟩))) rfl rfl rfl (hdep ⟨0, .data⟩ (by simp) rfl)
        obtain rfl := hsp
        exact hI.pureQ (by kernel_rfl) hls rfl rfl rfl (.agg (zr0_0.extract (0 + 0) (0 + 0 + 5))) (run_loadQ rfl (eval_of hvp) wn (hI.upd.blk (show Blk w1.drew br0_0 72 zr0_0 from Bxr0y0.out) (fun h => h)) Tryd.underlying39 rfl szE (by rw [hzr0_0.size]; exact Nat.le_of_ble_eq_true rfl)) (.val (.agg (zr0_0.extract (0 + 0) (0 + 0 + 5)))) rfl rfl rfl hK'
      · obtain rfl := Option.some.inj ho
        have hvp : an.eval (.tmp 3) = ptrTo br0_0 := hI.oldQ (by kernel_rfl) rfl
        exact hI.pureQ (by kernel_rfl) hls rfl rfl rfl (.pointer (some ⟨br0_0, 0 + 5, none⟩)) (run_fieldQ (g := br0_0) (off := 0) (k := 5) rfl hvp Tryd.underlying72 rfl (by rfl) szE wn) (.val (.pointer (some ⟨br0_0, 0 + 5, none⟩))) rfl rfl rfl hK'
      · obtain rfl := Option.some.inj ho
        obtain ⟨vp, hvp, hsp⟩ := hI.haveQ 2 _ 14 (.val (.pointer (some ⟨br0_0, 0 + 5, none⟩))) rfl rfl rfl (hdep ⟨2, .data⟩ (by simp) rfl)
        obtain rfl := hsp
        exact hI.pureQ (by kernel_rfl) hls rfl rfl rfl (.agg (zr0_0.extract (0 + 5) (0 + 5 + 5))) (run_loadQ rfl (eval_of hvp) wn (hI.upd.blk (show Blk w1.drew br0_0 72 zr0_0 from Bxr0y0.out) (fun h => h)) Tryd.underlying39 rfl szE (by rw [hzr0_0.size]; exact Nat.le_of_ble_eq_true rfl)) (.val (.agg (zr0_0.extract (0 + 5) (0 + 5 + 5)))) rfl rfl rfl hK'
      · obtain rfl := Option.some.inj ho
        obtain ⟨vp, hvp, hsp⟩ := hI.haveQ 1 _ 13 (.val (.agg (zr0_0.extract (0 + 0) (0 + 0 + 5)))) rfl rfl rfl (hdep ⟨1, .data⟩ (by simp) rfl)
        obtain rfl := hsp
        obtain ⟨vq, hvq, hsq⟩ := hI.haveQ 3 _ 15 (.val (.agg (zr0_0.extract (0 + 5) (0 + 5 + 5)))) rfl rfl rfl (hdep ⟨3, .data⟩ (by simp) rfl)
        obtain rfl := hsq
        exact hI.rowQ (by kernel_rfl) hls (Nat.le_refl _) rfl rfl rfl _ _ _ _ (run_pairQ rfl (eval_of hvp) (eval_of hvq) (hzr0_0.at 0 (0 + 0) rfl rfl).size (hzr0_0.at 1 (0 + 5) rfl rfl).size wn) rfl ((hzr0_0.at 0 (0 + 0) rfl rfl).cat (hzr0_0.at 1 (0 + 5) rfl rfl)) rfl hK'
      · obtain rfl := Option.some.inj ho
        obtain ⟨vp, hvp, bp, zp, rfl, hnp, hbp, hzp⟩ := hI.haveQ 4 _ 16 (.blk (fun b => .slice (some ⟨b, 0, none⟩) 2 2) 39 (Ch 5 RE [x1, z1])) rfl rfl rfl (hdep ⟨4, .data⟩ (by simp) rfl)
        exact hI.callQ (by kernel_rfl) hls rfl rfl rfl 45 #[.tmp 16] _ rfl #[.slice (some ⟨bp, 0, none⟩) 2 2] (by simp [eval_of hvp]) (run_enter Tryd.func45 (by kernel_rfl) (by kernel_rfl)) (.like (IsC 5 RE [x1 + z1])) rfl rfl ((addE hbp hzp).mono fun _ _ h => h.sq) hK'
      · obtain rfl := Option.some.inj ho
        have hvp : an.eval (.tmp 3) = ptrTo br0_0 := hI.oldQ (by kernel_rfl) rfl
        exact hI.pureQ (by kernel_rfl) hls rfl rfl rfl (.pointer (some ⟨br0_0, 0 + 0, none⟩)) (run_fieldQ (g := br0_0) (off := 0) (k := 0) rfl hvp Tryd.underlying72 rfl (by rfl) szE wn) (.val (.pointer (some ⟨br0_0, 0 + 0, none⟩))) rfl rfl rfl hK'
      · obtain rfl := Option.some.inj ho
        obtain ⟨vp, hvp, hsp⟩ := hI.haveQ 6 _ 18 (.val (.pointer (some ⟨br0_0, 0 + 0, none⟩))) rfl rfl rfl (hdep ⟨6, .data⟩ (by simp) rfl)
        obtain rfl := hsp
        exact hI.pureQ (by kernel_rfl) hls rfl rfl rfl (.agg (zr0_0.extract (0 + 0) (0 + 0 + 5))) (run_loadQ rfl (eval_of hvp) wn (hI.upd.blk (show Blk w1.drew br0_0 72 zr0_0 from Bxr0y0.out) (fun h => h)) Tryd.underlying39 rfl szE (by rw [hzr0_0.size]; exact Nat.le_of_ble_eq_true rfl)) (.val (.agg (zr0_0.extract (0 + 0) (0 + 0 + 5)))) rfl rfl rfl hK'
      · obtain rfl := Option.some.inj ho
        have hvp : an.eval (.tmp 3) = ptrTo br0_0 := hI.oldQ (by kernel_rfl) rfl
        exact hI.pureQ (by kernel_rfl) hls rfl rfl rfl (.pointer (some ⟨br0_0, 0 + 5, none⟩)) (run_fieldQ (g := br0_0) (off := 0) (k := 5) rfl hvp Tryd.underlying72 rfl (by rfl) szE wn) (.val (.pointer (some ⟨br0_0, 0 + 5, none⟩))) rfl rfl rfl hK'
      · obtain rfl := Option.some.inj ho
        obtain ⟨vp, hvp, hsp⟩ := hI.haveQ 8 _ 20 (.val (.pointer (some ⟨br0_0, 0 + 5, none⟩))) rfl rfl rfl (hdep ⟨8, .data⟩ (by simp) rfl)
        obtain rfl := hsp
        exact hI.pureQ (by kernel_rfl) hls rfl rfl rfl (.agg (zr0_0.extract (0 + 5) (0 + 5 + 5))) (run_loadQ rfl (eval_of hvp) wn (hI.upd.blk (show Blk w1.drew br0_0 72 zr0_0 from Bxr0y0.out) (fun h => h)) Tryd.underlying39 rfl szE (by rw [hzr0_0.size]; exact Nat.le_of_ble_eq_true rfl)) (.val (.agg (zr0_0.extract (0 + 5) (0 + 5 + 5)))) rfl rfl rfl hK'
      · obtain rfl := Option.some.inj ho
        obtain ⟨vp, hvp, hsp⟩ := hI.haveQ 7 _ 19 (.val (.agg (zr0_0.extract (0 + 0) (0 + 0 + 5)))) rfl rfl rfl (hdep ⟨7, .data⟩ (by simp) rfl)
        obtain rfl := hsp
        obtain ⟨vq, hvq, hsq⟩ := hI.haveQ 9 _ 21 (.val (.agg (zr0_0.extract (0 + 5) (0 + 5 + 5)))) rfl rfl rfl (hdep ⟨9, .data⟩ (by simp) rfl)
        obtain rfl := hsq
        exact hI.callQ (by kernel_rfl) hls rfl rfl rfl 46 #[.tmp 19, .tmp 21] _ rfl #[.agg (zr0_0.extract (0 + 0) (0 + 0 + 5)), .agg (zr0_0.extract (0 + 5) (0 + 5 + 5))] (by simp [eval_of hvp, eval_of hvq]) (run_enter Tryd.func46 (by kernel_rfl) (by kernel_rfl)) (.like (IsC 5 RE [x1 - z1])) rfl rfl ((subE (HT.out.upd (HU0.out.drew.trans hI.upd)) (hzr0_0.at 0 (0 + 0) rfl rfl) (hzr0_0.at 1 (0 + 5) rfl rfl)).mono fun _ _ h => h.sq) hK'
      · obtain rfl := Option.some.inj ho
        exact hI.newQ (by kernel_rfl) hls (Nat.le_refl _) (newsQ_spec (l := [11, 12]) (by kernel_rfl) ⟨⟨_, _, rfl⟩, ⟨_, _, rfl⟩, trivial⟩) rfl rfl rfl 39 zE _ (run_allocQ rfl zE_run wn) rfl zE_ch hK'
      · obtain rfl := Option.some.inj ho
        exact hI.newQ (by kernel_rfl) hls (Nat.le_refl _) (newsQ_spec (l := [11, 12]) (by kernel_rfl) ⟨⟨_, _, rfl⟩, ⟨_, _, rfl⟩, trivial⟩) rfl rfl rfl 39 zE _ (run_allocQ rfl zE_run wn) rfl zE_ch hK'
      · exact hi.elim
    · intro fuel an w2 hf hI
      obtain ⟨vr1_0, hvr1_0, hsr1_0⟩ := hI.haveQ 0 _ 12 (.val (.pointer (some ⟨br0_0, 0 + 0, none⟩))) rfl rfl rfl rfl
      obtain rfl := hsr1_0
      obtain ⟨vr1_1, hvr1_1, hsr1_1⟩ := hI.haveQ 1 _ 13 (.val (.agg (zr0_0.extract (0 + 0) (0 + 0 + 5)))) rfl rfl rfl rfl
      obtain rfl := hsr1_1
      obtain ⟨vr1_2, hvr1_2, hsr1_2⟩ := hI.haveQ 2 _ 14 (.val (.pointer (some ⟨br0_0, 0 + 5, none⟩))) rfl rfl rfl rfl
      obtain rfl := hsr1_2
      obtain ⟨vr1_3, hvr1_3, hsr1_3⟩ := hI.haveQ 3 _ 15 (.val (.agg (zr0_0.extract (0 + 5) (0 + 5 + 5)))) rfl rfl rfl rfl
      obtain rfl := hsr1_3
      obtain ⟨vr1_4, hvr1_4, br1_4, zr1_4, rfl, hnr1_4, hbr1_4, hzr1_4⟩ := hI.haveQ 4 _ 16 (.blk (fun b => .slice (some ⟨b, 0, none⟩) 2 2) 39 (Ch 5 RE [x1, z1])) rfl rfl rfl rfl
      obtain ⟨vr1_5, hvr1_5, ar1_5, rfl, hCr1_5⟩ := hI.haveQ 5 _ 17 (.like (IsC 5 RE [x1 + z1])) rfl rfl rfl rfl
      obtain ⟨vr1_6, hvr1_6, hsr1_6⟩ := hI.haveQ 6 _ 18 (.val (.pointer (some ⟨br0_0, 0 + 0, none⟩))) rfl rfl rfl rfl
      obtain rfl := hsr1_6
      obtain ⟨vr1_7, hvr1_7, hsr1_7⟩ := hI.haveQ 7 _ 19 (.val (.agg (zr0_0.extract (0 + 0) (0 + 0 + 5)))) rfl rfl rfl rfl
      obtain rfl := hsr1_7
      obtain ⟨vr1_8, hvr1_8, hsr1_8⟩ := hI.haveQ 8 _ 20 (.val (.pointer (some ⟨br0_0, 0 + 5, none⟩))) rfl rfl rfl rfl
      obtain rfl := hsr1_8
      obtain ⟨vr1_9, hvr1_9, hsr1_9⟩ := hI.haveQ 9 _ 21 (.val (.agg (zr0_0.extract (0 + 5) (0 + 5 + 5)))) rfl rfl rfl rfl
      obtain rfl := hsr1_9
      obtain ⟨vr1_10, hvr1_10, ar1_10, rfl, hCr1_10⟩ := hI.haveQ 10 _ 22 (.like (IsC 5 RE [x1 - z1])) rfl rfl rfl rfl
      obtain ⟨vr1_11, hvr1_11, br1_11, zr1_11, rfl, hnr1_11, hbr1_11, hzr1_11⟩ := hI.haveQ 11 _ 8 (.blk ptrTo 39 (Ch 5 RE [0])) rfl rfl rfl rfl
      obtain ⟨vr1_12, hvr1_12, br1_12, zr1_12, rfl, hnr1_12, hbr1_12, hzr1_12⟩ := hI.haveQ 12 _ 9 (.blk ptrTo 39 (Ch 5 RE [0])) rfl rfl rfl rfl
      have hupd := hI.upd
      have hner1_11_r1_12 := Lib.hid (show br1_11 ≠ br1_12 from fun e => hI.apart 11 12 _ _ 8 9 (by omega) rfl rfl rfl rfl rfl rfl rfl rfl (by rw [hvr1_11, hvr1_12, e]))
      have ha := hI.act [(12, .pointer (some ⟨br0_0, 0 + 0, none⟩)), (13, .agg (zr0_0.extract (0 + 0) (0 + 0 + 5))), (14, .pointer (some ⟨br0_0, 0 + 5, none⟩)), (15, .agg (zr0_0.extract (0 + 5) (0 + 5 + 5))), (16, .slice (some ⟨br1_4, 0, none⟩) 2 2), (17, .agg ar1_5), (18, .pointer (some ⟨br0_0, 0 + 0, none⟩)), (19, .agg (zr0_0.extract (0 + 0) (0 + 0 + 5))), (20, .pointer (some ⟨br0_0, 0 + 5, none⟩)), (21, .agg (zr0_0.extract (0 + 5) (0 + 5 + 5))), (22, .agg ar1_10), (8, ptrTo br1_11), (9, ptrTo br1_12)] (by simp [hvr1_0, hvr1_1, hvr1_2, hvr1_3, hvr1_4, hvr1_5, hvr1_6, hvr1_7, hvr1_8, hvr1_9, hvr1_10, hvr1_11, hvr1_12]) (by kernel_rfl)
      clear hI hvr1_0 hvr1_1 hvr1_2 hvr1_3 hvr1_4 hvr1_5 hvr1_6 hvr1_7 hvr1_8 hvr1_9 hvr1_10 hvr1_11 hvr1_12
      subst ha
      simp only [List.foldl_cons, List.foldl_nil, List.setIfInBounds_toArray, List.set_cons_zero, List.set_cons_succ]
      have hner1_11_Bxr0y0 := Lib.hid (show br1_11 ≠ br0_0 from Nat.ne_of_gt (Nat.lt_of_lt_of_le Bxr0y0.out.lt hnr1_11))
      have hner1_11_Bxr0y1 := Lib.hid (show br1_11 ≠ br0_1 from Nat.ne_of_gt (Nat.lt_of_lt_of_le Bxr0y1.out.lt hnr1_11))
      have hner1_11_Bxr0y2 := Lib.hid (show br1_11 ≠ br0_2 from Nat.ne_of_gt (Nat.lt_of_lt_of_le Bxr0y2.out.lt hnr1_11))
      have hner1_11_Bxr0y3 := Lib.hid (show br1_11 ≠ br0_3 from Nat.ne_of_gt (Nat.lt_of_lt_of_le Bxr0y3.out.lt hnr1_11))
      have hner1_11_Bxr0y4 := Lib.hid (show br1_11 ≠ br0_4 from Nat.ne_of_gt (Nat.lt_of_lt_of_le Bxr0y4.out.lt hnr1_11))
      have hger1_11 := Lib.hid (Nat.le_trans HU0.out.size hnr1_11)
      have hner1_12_Bxr0y0 := Lib.hid (show br1_12 ≠ br0_0 from Nat.ne_of_gt (Nat.lt_of_lt_of_le Bxr0y0.out.lt hnr1_12))
      have hner1_12_Bxr0y1 := Lib.hid (show br1_12 ≠ br0_1 from Nat.ne_of_gt (Nat.lt_of_lt_of_le Bxr0y1.out.lt hnr1_12))
      have hner1_12_Bxr0y2 := Lib.hid (show br1_12 ≠ br0_2 from Nat.ne_of_gt (Nat.lt_of_lt_of_le Bxr0y2.out.lt hnr1_12))
      have hner1_12_Bxr0y3 := Lib.hid (show br1_12 ≠ br0_3 from Nat.ne_of_gt (Nat.lt_of_lt_of_le Bxr0y3.out.lt hnr1_12))
      have hner1_12_Bxr0y4 := Lib.hid (show br1_12 ≠ br0_4 from Nat.ne_of_gt (Nat.lt_of_lt_of_le Bxr0y4.out.lt hnr1_12))
      have hger1_12 := Lib.hid (Nat.le_trans HU0.out.size hnr1_12)
      have Bxr0y0_1 := Lib.hid (hupd.blk (show Blk w1.drew br0_0 72 zr0_0 from Bxr0y0.out) (fun h => h))
      have Bxr0y1_1 := Lib.hid (hupd.blk (show Blk w1.drew br0_1 72 zr0_1 from Bxr0y1.out) (fun h => h))
      have Bxr0y2_1 := Lib.hid (hupd.blk (show Blk w1.drew br0_2 39 zr0_2 from Bxr0y2.out) (fun h => h))
      have Bxr0y3_1 := Lib.hid (hupd.blk (show Blk w1.drew br0_3 72 zr0_3 from Bxr0y3.out) (fun h => h))
      have Bxr0y4_1 := Lib.hid (hupd.blk (show Blk w1.drew br0_4 72 zr0_4 from Bxr0y4.out) (fun h => h))
      have Bxr1y11 := Lib.hid hbr1_11
      have Bxr1y12 := Lib.hid hbr1_12
      have HU1 := Lib.hid (HU0.out.drew.trans hupd)
      clear hupd
      have hf0 : left #[true, true, true, true, true, true, true, true, true, true, true, true, true, false, false] 15 = 2 := by kernel_rfl
      have hf1 : left #[true, true, true, true, true, true, true, true, true, true, true, true, true, false, false] 15 ≤ fuel := hf
      obtain ⟨fu, rfl⟩ : ∃ fu, fuel = fu + 2 := ⟨fuel - 2, by omega⟩
      clear hf hf0 hf1
      refine wpAny_storeQ 13 rfl (by kernel_rfl) rfl rfl 39 (.tmp 8) (.tmp 17) rfl br1_11 0 5 rfl ar1_5 rfl 39 zr1_11 Bxr1y11.out szE hCr1_5.size (by rw [hzr1_11.size]; exact Nat.le_of_ble_eq_true rfl) hCr1_5.one' ?_
      intro ws1_0 hs1_0 hus1_0
      rw [splice_all _ _ 5 hzr1_11.size hCr1_5.size] at hs1_0
      have Bxr0y0_s1_0 := Lib.hid (hus1_0.blk Bxr0y0_1.out (fun e => hner1_11_Bxr0y0.out e.symm))
      have Bxr0y1_s1_0 := Lib.hid (hus1_0.blk Bxr0y1_1.out (fun e => hner1_11_Bxr0y1.out e.symm))
      have Bxr0y2_s1_0 := Lib.hid (hus1_0.blk Bxr0y2_1.out (fun e => hner1_11_Bxr0y2.out e.symm))
      have Bxr0y3_s1_0 := Lib.hid (hus1_0.blk Bxr0y3_1.out (fun e => hner1_11_Bxr0y3.out e.symm))
      have Bxr0y4_s1_0 := Lib.hid (hus1_0.blk Bxr0y4_1.out (fun e => hner1_11_Bxr0y4.out e.symm))
      have Bxr1y12_s1_0 := Lib.hid (hus1_0.blk Bxr1y12.out (fun e => hner1_11_r1_12.out e.symm))
      have Bxr1y11_s1_0 := Lib.hid hs1_0
      have HU1_0 := Lib.hid (HU1.out.step hus1_0 (fun i hi h => absurd hi (Nat.not_lt.2 (h.symm ▸ hger1_11.out))))
      clear hs1_0 hus1_0
      refine wpAny_storeQ 14 rfl (by kernel_rfl) rfl rfl 39 (.tmp 9) (.tmp 22) rfl br1_12 0 5 rfl ar1_10 rfl 39 zr1_12 Bxr1y12_s1_0.out szE hCr1_10.size (by rw [hzr1_12.size]; exact Nat.le_of_ble_eq_true rfl) hCr1_10.one' ?_
      intro ws1_1 hs1_1 hus1_1
      rw [splice_all _ _ 5 hzr1_12.size hCr1_10.size] at hs1_1
      have Bxr0y0_s1_1 := Lib.hid (hus1_1.blk Bxr0y0_s1_0.out (fun e => hner1_12_Bxr0y0.out e.symm))
      have Bxr0y1_s1_1 := Lib.hid (hus1_1.blk Bxr0y1_s1_0.out (fun e => hner1_12_Bxr0y1.out e.symm))
      have Bxr0y2_s1_1 := Lib.hid (hus1_1.blk Bxr0y2_s1_0.out (fun e => hner1_12_Bxr0y2.out e.symm))
      have Bxr0y3_s1_1 := Lib.hid (hus1_1.blk Bxr0y3_s1_0.out (fun e => hner1_12_Bxr0y3.out e.symm))
      have Bxr0y4_s1_1 := Lib.hid (hus1_1.blk Bxr0y4_s1_0.out (fun e => hner1_12_Bxr0y4.out e.symm))
      have Bxr1y11_s1_1 := Lib.hid (hus1_1.blk Bxr1y11_s1_0.out (fun e => hner1_11_r1_12.out e))
      have Bxr1y12_s1_1 := Lib.hid hs1_1
      have HU1_1 := Lib.hid (HU1_0.out.step hus1_1 (fun i hi h => absurd hi (Nat.not_lt.2 (h.symm ▸ hger1_12.out))))
      clear hs1_1 hus1_1
      refine wpAny_done (by kernel_rfl) ?_ _
      refine hK1 _ _ ?_
      clear hK1
      refine wp_seq_k fun K2 hK2 => ?_
      refine wp_region_q #[true, true, true, true, true, true, true, true, true, false] ([.val (.agg ar1_10), .val (.pointer (some ⟨br0_1, 0 + 0, none⟩)), .val (.agg (zr0_1.extract (0 + 0) (0 + 0 + 5))), .val (.pointer (some ⟨br0_1, 0 + 5, none⟩)), .val (.agg (zr0_1.extract (0 + 5) (0 + 5 + 5))), .blk (fun b => .slice (some ⟨b, 0, none⟩) 2 2) 39 (Ch 5 RE [x2, z2]), .like (IsC 5 RE [x2 + z2]), .like (IsC 5 RE [(x1 - z1) * (x2 + z2)]), .blk ptrTo 39 (Ch 5 RE [0]), .val undef] : List SQ) (by kernel_rfl) (by kernel_rfl) (by kernel_rfl) ?_ ?_
      · intro i o listed an wn ho hls hst hun hdep hI K' hK'
        have hi : i = 0 ∨ i = 1 ∨ i = 2 ∨ i = 3 ∨ i = 4 ∨ i = 5 ∨ i = 6 ∨ i = 7 ∨ i = 8 ∨ False := slot_cases (l := [0, 1, 2, 3, 4, 5, 6, 7, 8]) rfl ho hst
        rcases hi with rfl | rfl | rfl | rfl | rfl | rfl | rfl | rfl | rfl | hi
        · obtain rfl := Option.some.inj ho
          have hvp : an.eval (.tmp 9) = ptrTo br1_12 := hI.oldQ (by kernel_rfl) rfl
          exact hI.pureQ (by kernel_rfl) hls rfl rfl rfl _ (run_loadQ rfl hvp wn (hI.upd.blk (show Blk ws1_1.drew br1_12 39 ar1_10 from Bxr1y12_s1_1.out) (fun h => h)) Tryd.underlying39 rfl szE (by rw [hCr1_10.size]; exact Nat.le_of_ble_eq_true rfl)) (.val (.agg ar1_10)) rfl (congrArg Value.agg (extract_all _ 5 hCr1_10.size)) rfl hK'
        · obtain rfl := Option.some.inj ho
          have hvp : an.eval (.tmp 4) = ptrTo br0_1 := hI.oldQ (by kernel_rfl) rfl
          exact hI.pureQ (by kernel_rfl) hls rfl rfl rfl (.pointer (some ⟨br0_1, 0 + 0, none⟩)) (run_fieldQ (g := br0_1) (off := 0) (k := 0) rfl hvp Tryd.underlying72 rfl (by rfl) szE wn) (.val (.pointer (some ⟨br0_1, 0 + 0, none⟩))) rfl rfl rfl hK'
        · obtain rfl := Option.some.inj ho
          obtain ⟨vp, hvp, hsp⟩ := hI.haveQ 1 _ 24 (.val (.pointer (some ⟨br0_1, 0 + 0, none⟩))) rfl rfl rfl (hdep ⟨1, .data⟩ (by simp) rfl)
          obtain rfl := hsp
          exact hI.pureQ (by kernel_rfl) hls rfl rfl rfl (.agg (zr0_1.extract (0 + 0) (0 + 0 + 5))) (run_loadQ rfl (eval_of hvp) wn (hI.upd.blk (show Blk ws1_1.drew br0_1 72 zr0_1 from Bxr0y1_s1_1.out) (fun h => h)) Tryd.underlying39 rfl szE (by rw [hzr0_1.size]; exact Nat.le_of_ble_eq_true rfl)) (.val (.agg (zr0_1.extract (0 + 0) (0 + 0 + 5)))) rfl rfl rfl hK'
        · obtain rfl := Option.some.inj ho
          have hvp : an.eval (.tmp 4) = ptrTo br0_1 := hI.oldQ (by kernel_rfl) rfl
          exact hI.pureQ (by kernel_rfl) hls rfl rfl rfl (.pointer (some ⟨br0_1, 0 + 5, none⟩)) (run_fieldQ (g := br0_1) (off := 0) (k := 5) rfl hvp Tryd.underlying72 rfl (by rfl) szE wn) (.val (.pointer (some ⟨br0_1, 0 + 5, none⟩))) rfl rfl rfl hK'
        · obtain rfl := Option.some.inj ho
          obtain ⟨vp, hvp, hsp⟩ := hI.haveQ 3 _ 26 (.val (.pointer (some ⟨br0_1, 0 + 5, none⟩))) rfl rfl rfl (hdep ⟨3, .data⟩ (by simp) rfl)
          obtain rfl := hsp
          exact hI.pureQ (by kernel_rfl) hls rfl rfl rfl (.agg (zr0_1.extract (0 + 5) (0 + 5 + 5))) (run_loadQ rfl (eval_of hvp) wn (hI.upd.blk (show Blk ws1_1.drew br0_1 72 zr0_1 from Bxr0y1_s1_1.out) (fun h => h)) Tryd.underlying39 rfl szE (by rw [hzr0_1.size]; exact Nat.le_of_ble_eq_true rfl)) (.val (.agg (zr0_1.extract (0 + 5) (0 + 5 + 5)))) rfl rfl rfl hK'
        · obtain rfl := Option.some.inj ho
          obtain ⟨vp, hvp, hsp⟩ := hI.haveQ 2 _ 25 (.val (.agg (zr0_1.extract (0 + 0) (0 + 0 + 5)))) rfl rfl rfl (hdep ⟨2, .data⟩ (by simp) rfl)
          obtain rfl := hsp
          obtain ⟨vq, hvq, hsq⟩ := hI.haveQ 4 _ 27 (.val (.agg (zr0_1.extract (0 + 5) (0 + 5 + 5)))) rfl rfl rfl (hdep ⟨4, .data⟩ (by simp) rfl)
          obtain rfl := hsq
          exact hI.rowQ (by kernel_rfl) hls (Nat.le_refl _) rfl rfl rfl _ _ _ _ (run_pairQ rfl (eval_of hvp) (eval_of hvq) (hzr0_1.at 0 (0 + 0) rfl rfl).size (hzr0_1.at 1 (0 + 5) rfl rfl).size wn) rfl ((hzr0_1.at 0 (0 + 0) rfl rfl).cat (hzr0_1.at 1 (0 + 5) rfl rfl)) rfl hK'
        · obtain rfl := Option.some.inj ho
          obtain ⟨vp, hvp, bp, zp, rfl, hnp, hbp, hzp⟩ := hI.haveQ 5 _ 28 (.blk (fun b => .slice (some ⟨b, 0, none⟩) 2 2) 39 (Ch 5 RE [x2, z2])) rfl rfl rfl (hdep ⟨5, .data⟩ (by simp) rfl)
          exact hI.callQ (by kernel_rfl) hls rfl rfl rfl 45 #[.tmp 28] _ rfl #[.slice (some ⟨bp, 0, none⟩) 2 2] (by simp [eval_of hvp]) (run_enter Tryd.func45 (by kernel_rfl) (by kernel_rfl)) (.like (IsC 5 RE [x2 + z2])) rfl rfl ((addE hbp hzp).mono fun _ _ h => h.sq) hK'
        · obtain rfl := Option.some.inj ho
          obtain ⟨vp, hvp, hsp⟩ := hI.haveQ 0 _ 23 (.val (.agg ar1_10)) rfl rfl rfl (hdep ⟨0, .data⟩ (by simp) rfl)
          obtain rfl := hsp
          obtain ⟨vq, hvq, aq, rfl, hCq⟩ := hI.haveQ 6 _ 29 (.like (IsC 5 RE [x2 + z2])) rfl rfl rfl (hdep ⟨6, .data⟩ (by simp) rfl)
          exact hI.callQ (by kernel_rfl) hls rfl rfl rfl 44 #[.tmp 23, .tmp 29] _ rfl #[.agg ar1_10, .agg aq] (by simp [eval_of hvp, eval_of hvq]) (run_enter Tryd.func44 (by kernel_rfl) (by kernel_rfl)) (.like (IsC 5 RE [(x1 - z1) * (x2 + z2)])) rfl rfl ((mulE hCr1_10 hCq).mono fun _ _ h => h.sq) hK'
        · obtain rfl := Option.some.inj ho
          exact hI.newQ (by kernel_rfl) hls (Nat.le_refl _) (newsQ_spec (l := [8]) (by kernel_rfl) ⟨⟨_, _, rfl⟩, trivial⟩) rfl rfl rfl 39 zE _ (run_allocQ rfl zE_run wn) rfl zE_ch hK'
        · exact hi.elim
      · intro fuel an w3 hf hI
        obtain ⟨vr2_0, hvr2_0, hsr2_0⟩ := hI.haveQ 0 _ 23 (.val (.agg ar1_10)) rfl rfl rfl rfl
        obtain rfl := hsr2_0
        obtain ⟨vr2_1, hvr2_1, hsr2_1⟩ := hI.haveQ 1 _ 24 (.val (.pointer (some ⟨br0_1, 0 + 0, none⟩))) rfl rfl rfl rfl
        obtain rfl := hsr2_1
        obtain ⟨vr2_2, hvr2_2, hsr2_2⟩ := hI.haveQ 2 _ 25 (.val (.agg (zr0_1.extract (0 + 0) (0 + 0 + 5)))) rfl rfl rfl rfl
        obtain rfl := hsr2_2
        obtain ⟨vr2_3, hvr2_3, hsr2_3⟩ := hI.haveQ 3 _ 26 (.val (.pointer (some ⟨br0_1, 0 + 5, none⟩))) rfl rfl rfl rfl
        obtain rfl := hsr2_3
        obtain ⟨vr2_4, hvr2_4, hsr2_4⟩ := hI.haveQ 4 _ 27 (.val (.agg (zr0_1.extract (0 + 5) (0 + 5 + 5)))) rfl rfl rfl rfl
        obtain rfl := hsr2_4
        obtain ⟨vr2_5, hvr2_5, br2_5, zr2_5, rfl, hnr2_5, hbr2_5, hzr2_5⟩ := hI.haveQ 5 _ 28 (.blk (fun b => .slice (some ⟨b, 0, none⟩) 2 2) 39 (Ch 5 RE [x2, z2])) rfl rfl rfl rfl
        obtain ⟨vr2_6, hvr2_6, ar2_6, rfl, hCr2_6⟩ := hI.haveQ 6 _ 29 (.like (IsC 5 RE [x2 + z2])) rfl rfl rfl rfl
        obtain ⟨vr2_7, hvr2_7, ar2_7, rfl, hCr2_7⟩ := hI.haveQ 7 _ 30 (.like (IsC 5 RE [(x1 - z1) * (x2 + z2)])) rfl rfl rfl rfl
        obtain ⟨vr2_8, hvr2_8, br2_8, zr2_8, rfl, hnr2_8, hbr2_8, hzr2_8⟩ := hI.haveQ 8 _ 10 (.blk ptrTo 39 (Ch 5 RE [0])) rfl rfl rfl rfl
        have hupd := hI.upd
        have ha := hI.act [(23, .agg ar1_10), (24, .pointer (some ⟨br0_1, 0 + 0, none⟩)), (25, .agg (zr0_1.extract (0 + 0) (0 + 0 + 5))), (26, .pointer (some ⟨br0_1, 0 + 5, none⟩)), (27, .agg (zr0_1.extract (0 + 5) (0 + 5 + 5))), (28, .slice (some ⟨br2_5, 0, none⟩) 2 2), (29, .agg ar2_6), (30, .agg ar2_7), (10, ptrTo br2_8)] (by simp [hvr2_0, hvr2_1, hvr2_2, hvr2_3, hvr2_4, hvr2_5, hvr2_6, hvr2_7, hvr2_8]) (by kernel_rfl)
        clear hI hvr2_0 hvr2_1 hvr2_2 hvr2_3 hvr2_4 hvr2_5 hvr2_6 hvr2_7 hvr2_8
        subst ha
        simp only [List.foldl_cons, List.foldl_nil, List.setIfInBounds_toArray, List.set_cons_zero, List.set_cons_succ]
        have hner2_8_Bxr0y0_s1_1 := Lib.hid (show br2_8 ≠ br0_0 from Nat.ne_of_gt (Nat.lt_of_lt_of_le Bxr0y0_s1_1.out.lt hnr2_8))
        have hner2_8_Bxr0y1_s1_1 := Lib.hid (show br2_8 ≠ br0_1 from Nat.ne_of_gt (Nat.lt_of_lt_of_le Bxr0y1_s1_1.out.lt hnr2_8))
        have hner2_8_Bxr0y2_s1_1 := Lib.hid (show br2_8 ≠ br0_2 from Nat.ne_of_gt (Nat.lt_of_lt_of_le Bxr0y2_s1_1.out.lt hnr2_8))
        have hner2_8_Bxr0y3_s1_1 := Lib.hid (show br2_8 ≠ br0_3 from Nat.ne_of_gt (Nat.lt_of_lt_of_le Bxr0y3_s1_1.out.lt hnr2_8))
        have hner2_8_Bxr0y4_s1_1 := Lib.hid (show br2_8 ≠ br0_4 from Nat.ne_of_gt (Nat.lt_of_lt_of_le Bxr0y4_s1_1.out.lt hnr2_8))
        have hner2_8_Bxr1y11_s1_1 := Lib.hid (show br2_8 ≠ br1_11 from Nat.ne_of_gt (Nat.lt_of_lt_of_le Bxr1y11_s1_1.out.lt hnr2_8))
        have hner2_8_Bxr1y12_s1_1 := Lib.hid (show br2_8 ≠ br1_12 from Nat.ne_of_gt (Nat.lt_of_lt_of_le Bxr1y12_s1_1.out.lt hnr2_8))
        have hger2_8 := Lib.hid (Nat.le_trans HU1_1.out.size hnr2_8)
        have Bxr0y0_2 := Lib.hid (hupd.blk (show Blk ws1_1.drew br0_0 72 zr0_0 from Bxr0y0_s1_1.out) (fun h => h))
        have Bxr0y1_2 := Lib.hid (hupd.blk (show Blk ws1_1.drew br0_1 72 zr0_1 from Bxr0y1_s1_1.out) (fun h => h))
        have Bxr0y2_2 := Lib.hid (hupd.blk (show Blk ws1_1.drew br0_2 39 zr0_2 from Bxr0y2_s1_1.out) (fun h => h))
        have Bxr0y3_2 := Lib.hid (hupd.blk (show Blk ws1_1.drew br0_3 72 zr0_3 from Bxr0y3_s1_1.out) (fun h => h))
        have Bxr0y4_2 := Lib.hid (hupd.blk (show Blk ws1_1.drew br0_4 72 zr0_4 from Bxr0y4_s1_1.out) (fun h => h))
        have Bxr1y11_2 := Lib.hid (hupd.blk (show Blk ws1_1.drew br1_11 39 ar1_5 from Bxr1y11_s1_1.out) (fun h => h))
        have Bxr1y12_2 := Lib.hid (hupd.blk (show Blk ws1_1.drew br1_12 39 ar1_10 from Bxr1y12_s1_1.out) (fun h => h))
        have Bxr2y8 := Lib.hid hbr2_8
        have HU2 := Lib.hid (HU1_1.out.drew.trans hupd)
        clear hupd
        have hf0 : left #[true, true, true, true, true, true, true, true, true, false] 10 = 1 := by kernel_rfl
        have hf1 : left #[true, true, true, true, true, true, true, true, true, false] 10 ≤ fuel := hf
        obtain ⟨fu, rfl⟩ : ∃ fu, fuel = fu + 1 := ⟨fuel - 1, by omega⟩
        clear hf hf0 hf1
        refine wpAny_storeQ 9 rfl (by kernel_rfl) rfl rfl 39 (.tmp 10) (.tmp 30) rfl br2_8 0 5 rfl ar2_7 rfl 39 zr2_8 Bxr2y8.out szE hCr2_7.size (by rw [hzr2_8.size]; exact Nat.le_of_ble_eq_true rfl) hCr2_7.one' ?_
        intro ws2_0 hs2_0 hus2_0
        rw [splice_all _ _ 5 hzr2_8.size hCr2_7.size] at hs2_0
        have Bxr0y0_s2_0 := Lib.hid (hus2_0.blk Bxr0y0_2.out (fun e => hner2_8_Bxr0y0_s1_1.out e.symm))
        have Bxr0y1_s2_0 := Lib.hid (hus2_0.blk Bxr0y1_2.out (fun e => hner2_8_Bxr0y1_s1_1.out e.symm))
        have Bxr0y2_s2_0 := Lib.hid (hus2_0.blk Bxr0y2_2.out (fun e => hner2_8_Bxr0y2_s1_1.out e.symm))
        have Bxr0y3_s2_0 := Lib.hid (hus2_0.blk Bxr0y3_2.out (fun e => hner2_8_Bxr0y3_s1_1.out e.symm))
        have Bxr0y4_s2_0 := Lib.hid (hus2_0.blk Bxr0y4_2.out (fun e => hner2_8_Bxr0y4_s1_1.out e.symm))
        have Bxr1y11_s2_0 := Lib.hid (hus2_0.blk Bxr1y11_2.out (fun e => hner2_8_Bxr1y11_s1_1.out e.symm))
        have Bxr1y12_s2_0 := Lib.hid (hus2_0.blk Bxr1y12_2.out (fun e => hner2_8_Bxr1y12_s1_1.out e.symm))
        have Bxr2y8_s2_0 := Lib.hid hs2_0
        have HU2_0 := Lib.hid (HU2.out.step hus2_0 (fun i hi h => absurd hi (Nat.not_lt.2 (h.symm ▸ hger2_8.out))))
        clear hs2_0 hus2_0
        refine wpAny_done (by kernel_rfl) ?_ _
        refine hK2 _ _ ?_
        clear hK2
        refine wp_seq_k fun K3 hK3 => ?_
        refine wp_region_q #[true, true, true, true, true, true, true, true, false] ([.val (.agg ar1_5), .val (.pointer (some ⟨br0_1, 0 + 0, none⟩)), .val (.agg (zr0_1.extract (0 + 0) (0 + 0 + 5))), .val (.pointer (some ⟨br0_1, 0 + 5, none⟩)), .val (.agg (zr0_1.extract (0 + 5) (0 + 5 + 5))), .like (IsC 5 RE [x2 - z2]), .like (IsC 5 RE [(x1 + z1) * (x2 - z2)]), .blk ptrTo 39 (Ch 5 RE [0]), .val undef] : List SQ) (by kernel_rfl) (by kernel_rfl) (by kernel_rfl) ?_ ?_
        · intro i o listed an wn ho hls hst hun hdep hI K' hK'
          have hi : i = 0 ∨ i = 1 ∨ i = 2 ∨ i = 3 ∨ i = 4 ∨ i = 5 ∨ i = 6 ∨ i = 7 ∨ False := slot_cases (l := [0, 1, 2, 3, 4, 5, 6, 7]) rfl ho hst
          rcases hi with rfl | rfl | rfl | rfl | rfl | rfl | rfl | rfl | hi
          · obtain rfl := Option.some.inj ho
            have hvp : an.eval (.tmp 8) = ptrTo br1_11 := hI.oldQ (by kernel_rfl) rfl
            exact hI.pureQ (by kernel_rfl) hls rfl rfl rfl _ (run_loadQ rfl hvp wn (hI.upd.blk (show Blk ws2_0.drew br1_11 39 ar1_5 from Bxr1y11_s2_0.out) (fun h => h)) Tryd.underlying39 rfl szE (by rw [hCr1_5.size]; exact Nat.le_of_ble_eq_true rfl)) (.val (.agg ar1_5)) rfl (congrArg Value.agg (extract_all _ 5 hCr1_5.size)) rfl hK'
          · obtain rfl := Option.some.inj ho
            have hvp : an.eval (.tmp 4) = ptrTo br0_1 := hI.oldQ (by kernel_rfl) rfl
            exact hI.pureQ (by kernel_rfl) hls rfl rfl rfl (.pointer (some ⟨br0_1, 0 + 0, none⟩)) (run_fieldQ (g := br0_1) (off := 0) (k := 0) rfl hvp Tryd.underlying72 rfl (by rfl) szE wn) (.val (.pointer (some ⟨br0_1, 0 + 0, none⟩))) rfl rfl rfl hK'
          · obtain rfl := Option.some.inj ho
            obtain ⟨vp, hvp, hsp⟩ := hI.haveQ 1 _ 32 (.val (.pointer (some ⟨br0_1, 0 + 0, none⟩))) rfl rfl rfl (hdep ⟨1, .data⟩ (by simp) rfl)
            obtain rfl := hsp
            exact hI.pureQ (by kernel_rfl) hls rfl rfl rfl (.agg (zr0_1.extract (0 + 0) (0 + 0 + 5))) (run_loadQ rfl (eval_of hvp) wn (hI.upd.blk (show Blk ws2_0.drew br0_1 72 zr0_1 from Bxr0y1_s2_0.out) (fun h => h)) Tryd.underlying39 rfl szE (by rw [hzr0_1.size]; exact Nat.le_of_ble_eq_true rfl)) (.val (.agg (zr0_1.extract (0 + 0) (0 + 0 + 5)))) rfl rfl rfl hK'
          · obtain rfl := Option.some.inj ho
            have hvp : an.eval (.tmp 4) = ptrTo br0_1 := hI.oldQ (by kernel_rfl) rfl
            exact hI.pureQ (by kernel_rfl) hls rfl rfl rfl (.pointer (some ⟨br0_1, 0 + 5, none⟩)) (run_fieldQ (g := br0_1) (off := 0) (k := 5) rfl hvp Tryd.underlying72 rfl (by rfl) szE wn) (.val (.pointer (some ⟨br0_1, 0 + 5, none⟩))) rfl rfl rfl hK'
          · obtain rfl := Option.some.inj ho
            obtain ⟨vp, hvp, hsp⟩ := hI.haveQ 3 _ 34 (.val (.pointer (some ⟨br0_1, 0 + 5, none⟩))) rfl rfl rfl (hdep ⟨3, .data⟩ (by simp) rfl)
            obtain rfl := hsp
            exact hI.pureQ (by kernel_rfl) hls rfl rfl rfl (.agg (zr0_1.extract (0 + 5) (0 + 5 + 5))) (run_loadQ rfl (eval_of hvp) wn (hI.upd.blk (show Blk ws2_0.drew br0_1 72 zr0_1 from Bxr0y1_s2_0.out) (fun h => h)) Tryd.underlying39 rfl szE (by rw [hzr0_1.size]; exact Nat.le_of_ble_eq_true rfl)) (.val (.agg (zr0_1.extract (0 + 5) (0 + 5 + 5)))) rfl rfl rfl hK'
          · obtain rfl := Option.some.inj ho
            obtain ⟨vp, hvp, hsp⟩ := hI.haveQ 2 _ 33 (.val (.agg (zr0_1.extract (0 + 0) (0 + 0 + 5)))) rfl rfl rfl (hdep ⟨2, .data⟩ (by simp) rfl)
            obtain rfl := hsp
            obtain ⟨vq, hvq, hsq⟩ := hI.haveQ 4 _ 35 (.val (.agg (zr0_1.extract (0 + 5) (0 + 5 + 5)))) rfl rfl rfl (hdep ⟨4, .data⟩ (by simp) rfl)
            obtain rfl := hsq
            exact hI.callQ (by kernel_rfl) hls rfl rfl rfl 46 #[.tmp 33, .tmp 35] _ rfl #[.agg (zr0_1.extract (0 + 0) (0 + 0 + 5)), .agg (zr0_1.extract (0 + 5) (0 + 5 + 5))] (by simp [eval_of hvp, eval_of hvq]) (run_enter Tryd.func46 (by kernel_rfl) (by kernel_rfl)) (.like (IsC 5 RE [x2 - z2])) rfl rfl ((subE (HT.out.upd (HU2_0.out.drew.trans hI.upd)) (hzr0_1.at 0 (0 + 0) rfl rfl) (hzr0_1.at 1 (0 + 5) rfl rfl)).mono fun _ _ h => h.sq) hK'
          · obtain rfl := Option.some.inj ho
            obtain ⟨vp, hvp, hsp⟩ := hI.haveQ 0 _ 31 (.val (.agg ar1_5)) rfl rfl rfl (hdep ⟨0, .data⟩ (by simp) rfl)
            obtain rfl := hsp
            obtain ⟨vq, hvq, aq, rfl, hCq⟩ := hI.haveQ 5 _ 36 (.like (IsC 5 RE [x2 - z2])) rfl rfl rfl (hdep ⟨5, .data⟩ (by simp) rfl)
            exact hI.callQ (by kernel_rfl) hls rfl rfl rfl 44 #[.tmp 31, .tmp 36] _ rfl #[.agg ar1_5, .agg aq] (by simp [eval_of hvp, eval_of hvq]) (run_enter Tryd.func44 (by kernel_rfl) (by kernel_rfl)) (.like (IsC 5 RE [(x1 + z1) * (x2 - z2)])) rfl rfl ((mulE hCr1_5 hCq).mono fun _ _ h => h.sq) hK'
          · obtain rfl := Option.some.inj ho
            exact hI.newQ (by kernel_rfl) hls (Nat.le_refl _) (newsQ_spec (l := [7]) (by kernel_rfl) ⟨⟨_, _, rfl⟩, trivial⟩) rfl rfl rfl 39 zE _ (run_allocQ rfl zE_run wn) rfl zE_ch hK'
          · exact hi.elim
        · intro fuel an w4 hf hI
          obtain ⟨vr3_0, hvr3_0, hsr3_0⟩ := hI.haveQ 0 _ 31 (.val (.agg ar1_5)) rfl rfl rfl rfl
          obtain rfl := hsr3_0
          obtain ⟨vr3_1, hvr3_1, hsr3_1⟩ := hI.haveQ 1 _ 32 (.val (.pointer (some ⟨br0_1, 0 + 0, none⟩))) rfl rfl rfl rfl
          obtain rfl := hsr3_1
          obtain ⟨vr3_2, hvr3_2, hsr3_2⟩ := hI.haveQ 2 _ 33 (.val (.agg (zr0_1.extract (0 + 0) (0 + 0 + 5)))) rfl rfl rfl rfl
          obtain rfl := hsr3_2
          obtain ⟨vr3_3, hvr3_3, hsr3_3⟩ := hI.haveQ 3 _ 34 (.val (.pointer (some ⟨br0_1, 0 + 5, none⟩))) rfl rfl rfl rfl
          obtain rfl := hsr3_3
          obtain ⟨vr3_4, hvr3_4, hsr3_4⟩ := hI.haveQ 4 _ 35 (.val (.agg (zr0_1.extract (0 + 5) (0 + 5 + 5)))) rfl rfl rfl rfl
          obtain rfl := hsr3_4
          obtain ⟨vr3_5, hvr3_5, ar3_5, rfl, hCr3_5⟩ := hI.haveQ 5 _ 36 (.like (IsC 5 RE [x2 - z2])) rfl rfl rfl rfl
          obtain ⟨vr3_6, hvr3_6, ar3_6, rfl, hCr3_6⟩ := hI.haveQ 6 _ 37 (.like (IsC 5 RE [(x1 + z1) * (x2 - z2)])) rfl rfl rfl rfl
          obtain ⟨vr3_7, hvr3_7, br3_7, zr3_7, rfl, hnr3_7, hbr3_7, hzr3_7⟩ := hI.haveQ 7 _ 11 (.blk ptrTo 39 (Ch 5 RE [0])) rfl rfl rfl rfl
          have hupd := hI.upd
          have ha := hI.act [(31, .agg ar1_5), (32, .pointer (some ⟨br0_1, 0 + 0, none⟩)), (33, .agg (zr0_1.extract (0 + 0) (0 + 0 + 5))), (34, .pointer (some ⟨br0_1, 0 + 5, none⟩)), (35, .agg (zr0_1.extract (0 + 5) (0 + 5 + 5))), (36, .agg ar3_5), (37, .agg ar3_6), (11, ptrTo br3_7)] (by simp [hvr3_0, hvr3_1, hvr3_2, hvr3_3, hvr3_4, hvr3_5, hvr3_6, hvr3_7]) (by kernel_rfl)
          clear hI hvr3_0 hvr3_1 hvr3_2 hvr3_3 hvr3_4 hvr3_5 hvr3_6 hvr3_7
          subst ha
          simp only [List.foldl_cons, List.foldl_nil, List.setIfInBounds_toArray, List.set_cons_zero, List.set_cons_succ]
          have hner3_7_Bxr0y0_s2_0 := Lib.hid (show br3_7 ≠ br0_0 from Nat.ne_of_gt (Nat.lt_of_lt_of_le Bxr0y0_s2_0.out.lt hnr3_7))
          have hner3_7_Bxr0y1_s2_0 := Lib.hid (show br3_7 ≠ br0_1 from Nat.ne_of_gt (Nat.lt_of_lt_of_le Bxr0y1_s2_0.out.lt hnr3_7))
          have hner3_7_Bxr0y2_s2_0 := Lib.hid (show br3_7 ≠ br0_2 from Nat.ne_of_gt (Nat.lt_of_lt_of_le Bxr0y2_s2_0.out.lt hnr3_7))
          have hner3_7_Bxr0y3_s2_0 := Lib.hid (show br3_7 ≠ br0_3 from Nat.ne_of_gt (Nat.lt_of_lt_of_le Bxr0y3_s2_0.out.lt hnr3_7))
          have hner3_7_Bxr0y4_s2_0 := Lib.hid (show br3_7 ≠ br0_4 from Nat.ne_of_gt (Nat.lt_of_lt_of_le Bxr0y4_s2_0.out.lt hnr3_7))
          have hner3_7_Bxr1y11_s2_0 := Lib.hid (show br3_7 ≠ br1_11 from Nat.ne_of_gt (Nat.lt_of_lt_of_le Bxr1y11_s2_0.out.lt hnr3_7))
          have hner3_7_Bxr1y12_s2_0 := Lib.hid (show br3_7 ≠ br1_12 from Nat.ne_of_gt (Nat.lt_of_lt_of_le Bxr1y12_s2_0.out.lt hnr3_7))
          have hner3_7_Bxr2y8_s2_0 := Lib.hid (show br3_7 ≠ br2_8 from Nat.ne_of_gt (Nat.lt_of_lt_of_le Bxr2y8_s2_0.out.lt hnr3_7))
          have hger3_7 := Lib.hid (Nat.le_trans HU2_0.out.size hnr3_7)
          have Bxr0y0_3 := Lib.hid (hupd.blk (show Blk ws2_0.drew br0_0 72 zr0_0 from Bxr0y0_s2_0.out) (fun h => h))
          have Bxr0y1_3 := Lib.hid (hupd.blk (show Blk ws2_0.drew br0_1 72 zr0_1 from Bxr0y1_s2_0.out) (fun h => h))
          have Bxr0y2_3 := Lib.hid (hupd.blk (show Blk ws2_0.drew br0_2 39 zr0_2 from Bxr0y2_s2_0.out) (fun h => h))
          have Bxr0y3_3 := Lib.hid (hupd.blk (show Blk ws2_0.drew br0_3 72 zr0_3 from Bxr0y3_s2_0.out) (fun h => h))
          have Bxr0y4_3 := Lib.hid (hupd.blk (show Blk ws2_0.drew br0_4 72 zr0_4 from Bxr0y4_s2_0.out) (fun h => h))
          have Bxr1y11_3 := Lib.hid (hupd.blk (show Blk ws2_0.drew br1_11 39 ar1_5 from Bxr1y11_s2_0.out) (fun h => h))
          have Bxr1y12_3 := Lib.hid (hupd.blk (show Blk ws2_0.drew br1_12 39 ar1_10 from Bxr1y12_s2_0.out) (fun h => h))
          have Bxr2y8_3 := Lib.hid (hupd.blk (show Blk ws2_0.drew br2_8 39 ar2_7 from Bxr2y8_s2_0.out) (fun h => h))
          have Bxr3y7 := Lib.hid hbr3_7
          have HU3 := Lib.hid (HU2_0.out.drew.trans hupd)
          clear hupd
          have hf0 : left #[true, true, true, true, true, true, true, true, false] 9 = 1 := by kernel_rfl
          have hf1 : left #[true, true, true, true, true, true, true, true, false] 9 ≤ fuel := hf
          obtain ⟨fu, rfl⟩ : ∃ fu, fuel = fu + 1 := ⟨fuel - 1, by omega⟩
          clear hf hf0 hf1
          refine wpAny_storeQ 8 rfl (by kernel_rfl) rfl rfl 39 (.tmp 11) (.tmp 37) rfl br3_7 0 5 rfl ar3_6 rfl 39 zr3_7 Bxr3y7.out szE hCr3_6.size (by rw [hzr3_7.size]; exact Nat.le_of_ble_eq_true rfl) hCr3_6.one' ?_
          intro ws3_0 hs3_0 hus3_0
          rw [splice_all _ _ 5 hzr3_7.size hCr3_6.size] at hs3_0
          have Bxr0y0_s3_0 := Lib.hid (hus3_0.blk Bxr0y0_3.out (fun e => hner3_7_Bxr0y0_s2_0.out e.symm))
          have Bxr0y1_s3_0 := Lib.hid (hus3_0.blk Bxr0y1_3.out (fun e => hner3_7_Bxr0y1_s2_0.out e.symm))
          have Bxr0y2_s3_0 := Lib.hid (hus3_0.blk Bxr0y2_3.out (fun e => hner3_7_Bxr0y2_s2_0.out e.symm))
          have Bxr0y3_s3_0 := Lib.hid (hus3_0.blk Bxr0y3_3.out (fun e => hner3_7_Bxr0y3_s2_0.out e.symm))
          have Bxr0y4_s3_0 := Lib.hid (hus3_0.blk Bxr0y4_3.out (fun e => hner3_7_Bxr0y4_s2_0.out e.symm))
          have Bxr1y11_s3_0 := Lib.hid (hus3_0.blk Bxr1y11_3.out (fun e => hner3_7_Bxr1y11_s2_0.out e.symm))
          have Bxr1y12_s3_0 := Lib.hid (hus3_0.blk Bxr1y12_3.out (fun e => hner3_7_Bxr1y12_s2_0.out e.symm))
          have Bxr2y8_s3_0 := Lib.hid (hus3_0.blk Bxr2y8_3.out (fun e => hner3_7_Bxr2y8_s2_0.out e.symm))
          have Bxr3y7_s3_0 := Lib.hid hs3_0
          have HU3_0 := Lib.hid (HU3.out.step hus3_0 (fun i hi h => absurd hi (Nat.not_lt.2 (h.symm ▸ hger3_7.out))))
          clear hs3_0 hus3_0
          refine wpAny_done (by kernel_rfl) ?_ _
          refine hK3 _ _ ?_
          clear hK3
          refine wp_seq_k fun K4 hK4 => ?_
          refine wp_region_q #[true, true, true, true, true, true, true, true, true, true, true, true, true, true, false, false, false] ([.val (.agg ar1_5), .val (.agg ar1_10), .like (IsC 5 RE [(x1 + z1) * (x1 + z1) * ((x1 - z1) * (x1 - z1)), ((x1 + z1) * (x1 + z1) - (x1 - z1) * (x1 - z1)) * ((x1 + z1) * (x1 + z1) + fv 121665 * ((x1 + z1) * (x1 + z1) - (x1 - z1) * (x1 - z1)))]), .val (.agg ar2_7), .val (.agg ar3_6), .blk (fun b => .slice (some ⟨b, 0, none⟩) 2 2) 39 (Ch 5 RE [(x1 - z1) * (x2 + z2), (x1 + z1) * (x2 - z2)]), .like (IsC 5 RE [((x1 - z1) * (x2 + z2)) + ((x1 + z1) * (x2 - z2))]), .like (IsC 5 RE [(((x1 - z1) * (x2 + z2)) + ((x1 + z1) * (x2 - z2))) * (((x1 - z1) * (x2 + z2)) + ((x1 + z1) * (x2 - z2)))]), .val (.agg zr0_2), .val (.agg ar2_7), .val (.agg ar3_6), .like (IsC 5 RE [((x1 - z1) * (x2 + z2)) - ((x1 + z1) * (x2 - z2))]), .like (IsC 5 RE [(((x1 - z1) * (x2 + z2)) - ((x1 + z1) * (x2 - z2))) * (((x1 - z1) * (x2 + z2)) - ((x1 + z1) * (x2 - z2)))]), .like (IsC 5 RE [u * ((((x1 - z1) * (x2 + z2)) - ((x1 + z1) * (x2 - z2))) * (((x1 - z1) * (x2 + z2)) - ((x1 + z1) * (x2 - z2))))]), .val undef, .val undef, .val undef] : List SQ) (by kernel_rfl) (by kernel_rfl) (by kernel_rfl) ?_ ?_
          · intro i o listed an wn ho hls hst hun hdep hI K' hK'
            have hi : i = 0 ∨ i = 1 ∨ i = 2 ∨ i = 3 ∨ i = 4 ∨ i = 5 ∨ i = 6 ∨ i = 7 ∨ i = 8 ∨ i = 9 ∨ i = 10 ∨ i = 11 ∨ i = 12 ∨ i = 13 ∨ False := slot_cases (l := [0, 1, 2, 3, 4, 5, 6, 7, 8, 9, 10, 11, 12, 13]) rfl ho hst
            rcases hi with rfl | rfl | rfl | rfl | rfl | rfl | rfl | rfl | rfl | rfl | rfl | rfl | rfl | rfl | hi
            · obtain rfl := Option.some.inj ho
              have hvp : an.eval (.tmp 8) = ptrTo br1_11 := hI.oldQ (by kernel_rfl) rfl
              exact hI.pureQ (by kernel_rfl) hls rfl rfl rfl _ (run_loadQ rfl hvp wn (hI.upd.blk (show Blk ws3_0.drew br1_11 39 ar1_5 from Bxr1y11_s3_0.out) (fun h => h)) Tryd.underlying39 rfl szE (by rw [hCr1_5.size]; exact Nat.le_of_ble_eq_true rfl)) (.val (.agg ar1_5)) rfl (congrArg Value.agg (extract_all _ 5 hCr1_5.size)) rfl hK'
            · obtain rfl := Option.some.inj ho
              have hvp : an.eval (.tmp 9) = ptrTo br1_12 := hI.oldQ (by kernel_rfl) rfl
              exact hI.pureQ (by kernel_rfl) hls rfl rfl rfl _ (run_loadQ rfl hvp wn (hI.upd.blk (show Blk ws3_0.drew br1_12 39 ar1_10 from Bxr1y12_s3_0.out) (fun h => h)) Tryd.underlying39 rfl szE (by rw [hCr1_10.size]; exact Nat.le_of_ble_eq_true rfl)) (.val (.agg ar1_10)) rfl (congrArg Value.agg (extract_all _ 5 hCr1_10.size)) rfl hK'
            · obtain rfl := Option.some.inj ho
              obtain ⟨vp, hvp, hsp⟩ := hI.haveQ 0 _ 38 (.val (.agg ar1_5)) rfl rfl rfl (hdep ⟨0, .data⟩ (by simp) rfl)
              obtain rfl := hsp
              obtain ⟨vq, hvq, hsq⟩ := hI.haveQ 1 _ 39 (.val (.agg ar1_10)) rfl rfl rfl (hdep ⟨1, .data⟩ (by simp) rfl)
              obtain rfl := hsq
              exact hI.callQ (by kernel_rfl) hls rfl rfl rfl 86 #[.tmp 38, .tmp 39] _ rfl #[.agg ar1_5, .agg ar1_10] (by simp [eval_of hvp, eval_of hvq]) (run_enter Tryd.func86 (by kernel_rfl) (by kernel_rfl)) (.like (IsC 5 RE [(x1 + z1) * (x1 + z1) * ((x1 - z1) * (x1 - z1)), ((x1 + z1) * (x1 + z1) - (x1 - z1) * (x1 - z1)) * ((x1 + z1) * (x1 + z1) + fv 121665 * ((x1 + z1) * (x1 + z1) - (x1 - z1) * (x1 - z1)))])) rfl rfl ((doubleL _ (HT.out.upd (HU3_0.out.drew.trans hI.upd)) hCr1_5 hCr1_10).mono fun _ _ h => h.sq) hK'
            · obtain rfl := Option.some.inj ho
              have hvp : an.eval (.tmp 10) = ptrTo br2_8 := hI.oldQ (by kernel_rfl) rfl
              exact hI.pureQ (by kernel_rfl) hls rfl rfl rfl _ (run_loadQ rfl hvp wn (hI.upd.blk (show Blk ws3_0.drew br2_8 39 ar2_7 from Bxr2y8_s3_0.out) (fun h => h)) Tryd.underlying39 rfl szE (by rw [hCr2_7.size]; exact Nat.le_of_ble_eq_true rfl)) (.val (.agg ar2_7)) rfl (congrArg Value.agg (extract_all _ 5 hCr2_7.size)) rfl hK'
            · obtain rfl := Option.some.inj ho
              have hvp : an.eval (.tmp 11) = ptrTo br3_7 := hI.oldQ (by kernel_rfl) rfl
              exact hI.pureQ (by kernel_rfl) hls rfl rfl rfl _ (run_loadQ rfl hvp wn (hI.upd.blk (show Blk ws3_0.drew br3_7 39 ar3_6 from Bxr3y7_s3_0.out) (fun h => h)) Tryd.underlying39 rfl szE (by rw [hCr3_6.size]; exact Nat.le_of_ble_eq_true rfl)) (.val (.agg ar3_6)) rfl (congrArg Value.agg (extract_all _ 5 hCr3_6.size)) rfl hK'
            · obtain rfl := Option.some.inj ho
              obtain ⟨vp, hvp, hsp⟩ := hI.haveQ 3 _ 41 (.val (.agg ar2_7)) rfl rfl rfl (hdep ⟨3, .data⟩ (by simp) rfl)
              obtain rfl := hsp
              obtain ⟨vq, hvq, hsq⟩ := hI.haveQ 4 _ 42 (.val (.agg ar3_6)) rfl rfl rfl (hdep ⟨4, .data⟩ (by simp) rfl)
              obtain rfl := hsq
              exact hI.rowQ (by kernel_rfl) hls (Nat.le_refl _) rfl rfl rfl _ _ _ _ (run_pairQ rfl (eval_of hvp) (eval_of hvq) hCr2_7.size hCr3_6.size wn) rfl (hCr2_7.cat hCr3_6) rfl hK'
            · obtain rfl := Option.some.inj ho
              obtain ⟨vp, hvp, bp, zp, rfl, hnp, hbp, hzp⟩ := hI.haveQ 5 _ 43 (.blk (fun b => .slice (some ⟨b, 0, none⟩) 2 2) 39 (Ch 5 RE [(x1 - z1) * (x2 + z2), (x1 + z1) * (x2 - z2)])) rfl rfl rfl (hdep ⟨5, .data⟩ (by simp) rfl)
              exact hI.callQ (by kernel_rfl) hls rfl rfl rfl 45 #[.tmp 43] _ rfl #[.slice (some ⟨bp, 0, none⟩) 2 2] (by simp [eval_of hvp]) (run_enter Tryd.func45 (by kernel_rfl) (by kernel_rfl)) (.like (IsC 5 RE [((x1 - z1) * (x2 + z2)) + ((x1 + z1) * (x2 - z2))])) rfl rfl ((addE hbp hzp).mono fun _ _ h => h.sq) hK'
            · obtain rfl := Option.some.inj ho
              obtain ⟨vp, hvp, ap, rfl, hCp⟩ := hI.haveQ 6 _ 44 (.like (IsC 5 RE [((x1 - z1) * (x2 + z2)) + ((x1 + z1) * (x2 - z2))])) rfl rfl rfl (hdep ⟨6, .data⟩ (by simp) rfl)
              exact hI.callQ (by kernel_rfl) hls rfl rfl rfl 87 #[.tmp 44] _ rfl #[.agg ap] (by simp [eval_of hvp]) (run_enter Tryd.func87 (by kernel_rfl) (by kernel_rfl)) (.like (IsC 5 RE [(((x1 - z1) * (x2 + z2)) + ((x1 + z1) * (x2 - z2))) * (((x1 - z1) * (x2 + z2)) + ((x1 + z1) * (x2 - z2)))])) rfl rfl ((squareL _ hCp).mono fun _ _ h => h.sq) hK'
            · obtain rfl := Option.some.inj ho
              have hvp : an.eval (.tmp 5) = ptrTo br0_2 := hI.oldQ (by kernel_rfl) rfl
              exact hI.pureQ (by kernel_rfl) hls rfl rfl rfl _ (run_loadQ rfl hvp wn (hI.upd.blk (show Blk ws3_0.drew br0_2 39 zr0_2 from Bxr0y2_s3_0.out) (fun h => h)) Tryd.underlying39 rfl szE (by rw [hzr0_2.size]; exact Nat.le_of_ble_eq_true rfl)) (.val (.agg zr0_2)) rfl (congrArg Value.agg (extract_all _ 5 hzr0_2.size)) rfl hK'
            · obtain rfl := Option.some.inj ho
              have hvp : an.eval (.tmp 10) = ptrTo br2_8 := hI.oldQ (by kernel_rfl) rfl
              exact hI.pureQ (by kernel_rfl) hls rfl rfl rfl _ (run_loadQ rfl hvp wn (hI.upd.blk (show Blk ws3_0.drew br2_8 39 ar2_7 from Bxr2y8_s3_0.out) (fun h => h)) Tryd.underlying39 rfl szE (by rw [hCr2_7.size]; exact Nat.le_of_ble_eq_true rfl)) (.val (.agg ar2_7)) rfl (congrArg Value.agg (extract_all _ 5 hCr2_7.size)) rfl hK'
            · obtain rfl := Option.some.inj ho
              have hvp : an.eval (.tmp 11) = ptrTo br3_7 := hI.oldQ (by kernel_rfl) rfl
              exact hI.pureQ (by kernel_rfl) hls rfl rfl rfl _ (run_loadQ rfl hvp wn (hI.upd.blk (show Blk ws3_0.drew br3_7 39 ar3_6 from Bxr3y7_s3_0.out) (fun h => h)) Tryd.underlying39 rfl szE (by rw [hCr3_6.size]; exact Nat.le_of_ble_eq_true rfl)) (.val (.agg ar3_6)) rfl (congrArg Value.agg (extract_all _ 5 hCr3_6.size)) rfl hK'
            · obtain rfl := Option.some.inj ho
              obtain ⟨vp, hvp, hsp⟩ := hI.haveQ 9 _ 47 (.val (.agg ar2_7)) rfl rfl rfl (hdep ⟨9, .data⟩ (by simp) rfl)
              obtain rfl := hsp
              obtain ⟨vq, hvq, hsq⟩ := hI.haveQ 10 _ 48 (.val (.agg ar3_6)) rfl rfl rfl (hdep ⟨10, .data⟩ (by simp) rfl)
              obtain rfl := hsq
              exact hI.callQ (by kernel_rfl) hls rfl rfl rfl 46 #[.tmp 47, .tmp 48] _ rfl #[.agg ar2_7, .agg ar3_6] (by simp [eval_of hvp, eval_of hvq]) (run_enter Tryd.func46 (by kernel_rfl) (by kernel_rfl)) (.like (IsC 5 RE [((x1 - z1) * (x2 + z2)) - ((x1 + z1) * (x2 - z2))])) rfl rfl ((subE (HT.out.upd (HU3_0.out.drew.trans hI.upd)) hCr2_7 hCr3_6).mono fun _ _ h => h.sq) hK'
            · obtain rfl := Option.some.inj ho
              obtain ⟨vp, hvp, ap, rfl, hCp⟩ := hI.haveQ 11 _ 49 (.like (IsC 5 RE [((x1 - z1) * (x2 + z2)) - ((x1 + z1) * (x2 - z2))])) rfl rfl rfl (hdep ⟨11, .data⟩ (by simp) rfl)
              exact hI.callQ (by kernel_rfl) hls rfl rfl rfl 87 #[.tmp 49] _ rfl #[.agg ap] (by simp [eval_of hvp]) (run_enter Tryd.func87 (by kernel_rfl) (by kernel_rfl)) (.like (IsC 5 RE [(((x1 - z1) * (x2 + z2)) - ((x1 + z1) * (x2 - z2))) * (((x1 - z1) * (x2 + z2)) - ((x1 + z1) * (x2 - z2)))])) rfl rfl ((squareL _ hCp).mono fun _ _ h => h.sq) hK'
            · obtain rfl := Option.some.inj ho
              obtain ⟨vp, hvp, hsp⟩ := hI.haveQ 8 _ 46 (.val (.agg zr0_2)) rfl rfl rfl (hdep ⟨8, .data⟩ (by simp) rfl)
              obtain rfl := hsp
              obtain ⟨vq, hvq, aq, rfl, hCq⟩ := hI.haveQ 12 _ 50 (.like (IsC 5 RE [(((x1 - z1) * (x2 + z2)) - ((x1 + z1) * (x2 - z2))) * (((x1 - z1) * (x2 + z2)) - ((x1 + z1) * (x2 - z2)))])) rfl rfl rfl (hdep ⟨12, .data⟩ (by simp) rfl)
              exact hI.callQ (by kernel_rfl) hls rfl rfl rfl 44 #[.tmp 46, .tmp 50] _ rfl #[.agg zr0_2, .agg aq] (by simp [eval_of hvp, eval_of hvq]) (run_enter Tryd.func44 (by kernel_rfl) (by kernel_rfl)) (.like (IsC 5 RE [u * ((((x1 - z1) * (x2 + z2)) - ((x1 + z1) * (x2 - z2))) * (((x1 - z1) * (x2 + z2)) - ((x1 + z1) * (x2 - z2))))])) rfl rfl ((mulE hzr0_2 hCq).mono fun _ _ h => h.sq) hK'
            · exact hi.elim
          · intro fuel an w5 hf hI
            obtain ⟨vr4_0, hvr4_0, hsr4_0⟩ := hI.haveQ 0 _ 38 (.val (.agg ar1_5)) rfl rfl rfl rfl
            obtain rfl := hsr4_0
            obtain ⟨vr4_1, hvr4_1, hsr4_1⟩ := hI.haveQ 1 _ 39 (.val (.agg ar1_10)) rfl rfl rfl rfl
            obtain rfl := hsr4_1
            obtain ⟨vr4_2, hvr4_2, ar4_2, rfl, hCr4_2⟩ := hI.haveQ 2 _ 40 (.like (IsC 5 RE [(x1 + z1) * (x1 + z1) * ((x1 - z1) * (x1 - z1)), ((x1 + z1) * (x1 + z1) - (x1 - z1) * (x1 - z1)) * ((x1 + z1) * (x1 + z1) + fv 121665 * ((x1 + z1) * (x1 + z1) - (x1 - z1) * (x1 - z1)))])) rfl rfl rfl rfl
            obtain ⟨vr4_3, hvr4_3, hsr4_3⟩ := hI.haveQ 3 _ 41 (.val (.agg ar2_7)) rfl rfl rfl rfl
            obtain rfl := hsr4_3
            obtain ⟨vr4_4, hvr4_4, hsr4_4⟩ := hI.haveQ 4 _ 42 (.val (.agg ar3_6)) rfl rfl rfl rfl
            obtain rfl := hsr4_4
            obtain ⟨vr4_5, hvr4_5, br4_5, zr4_5, rfl, hnr4_5, hbr4_5, hzr4_5⟩ := hI.haveQ 5 _ 43 (.blk (fun b => .slice (some ⟨b, 0, none⟩) 2 2) 39 (Ch 5 RE [(x1 - z1) * (x2 + z2), (x1 + z1) * (x2 - z2)])) rfl rfl rfl rfl
            obtain ⟨vr4_6, hvr4_6, ar4_6, rfl, hCr4_6⟩ := hI.haveQ 6 _ 44 (.like (IsC 5 RE [((x1 - z1) * (x2 + z2)) + ((x1 + z1) * (x2 - z2))])) rfl rfl rfl rfl
            obtain ⟨vr4_7, hvr4_7, ar4_7, rfl, hCr4_7⟩ := hI.haveQ 7 _ 45 (.like (IsC 5 RE [(((x1 - z1) * (x2 + z2)) + ((x1 + z1) * (x2 - z2))) * (((x1 - z1) * (x2 + z2)) + ((x1 + z1) * (x2 - z2)))])) rfl rfl rfl rfl
            obtain ⟨vr4_8, hvr4_8, hsr4_8⟩ := hI.haveQ 8 _ 46 (.val (.agg zr0_2)) rfl rfl rfl rfl
            obtain rfl := hsr4_8
            obtain ⟨vr4_9, hvr4_9, hsr4_9⟩ := hI.haveQ 9 _ 47 (.val (.agg ar2_7)) rfl rfl rfl rfl
            obtain rfl := hsr4_9
            obtain ⟨vr4_10, hvr4_10, hsr4_10⟩ := hI.haveQ 10 _ 48 (.val (.agg ar3_6)) rfl rfl rfl rfl
            obtain rfl := hsr4_10
            obtain ⟨vr4_11, hvr4_11, ar4_11, rfl, hCr4_11⟩ := hI.haveQ 11 _ 49 (.like (IsC 5 RE [((x1 - z1) * (x2 + z2)) - ((x1 + z1) * (x2 - z2))])) rfl rfl rfl rfl
            obtain ⟨vr4_12, hvr4_12, ar4_12, rfl, hCr4_12⟩ := hI.haveQ 12 _ 50 (.like (IsC 5 RE [(((x1 - z1) * (x2 + z2)) - ((x1 + z1) * (x2 - z2))) * (((x1 - z1) * (x2 + z2)) - ((x1 + z1) * (x2 - z2)))])) rfl rfl rfl rfl
            obtain ⟨vr4_13, hvr4_13, ar4_13, rfl, hCr4_13⟩ := hI.haveQ 13 _ 51 (.like (IsC 5 RE [u * ((((x1 - z1) * (x2 + z2)) - ((x1 + z1) * (x2 - z2))) * (((x1 - z1) * (x2 + z2)) - ((x1 + z1) * (x2 - z2))))])) rfl rfl rfl rfl
            have hupd := hI.upd
            have ha := hI.act [(38, .agg ar1_5), (39, .agg ar1_10), (40, .agg ar4_2), (41, .agg ar2_7), (42, .agg ar3_6), (43, .slice (some ⟨br4_5, 0, none⟩) 2 2), (44, .agg ar4_6), (45, .agg ar4_7), (46, .agg zr0_2), (47, .agg ar2_7), (48, .agg ar3_6), (49, .agg ar4_11), (50, .agg ar4_12), (51, .agg ar4_13)] (by simp [hvr4_0, hvr4_1, hvr4_2, hvr4_3, hvr4_4, hvr4_5, hvr4_6, hvr4_7, hvr4_8, hvr4_9, hvr4_10, hvr4_11, hvr4_12, hvr4_13]) (by kernel_rfl)
            clear hI hvr4_0 hvr4_1 hvr4_2 hvr4_3 hvr4_4 hvr4_5 hvr4_6 hvr4_7 hvr4_8 hvr4_9 hvr4_10 hvr4_11 hvr4_12 hvr4_13
            subst ha
            simp only [List.foldl_cons, List.foldl_nil, List.setIfInBounds_toArray, List.set_cons_zero, List.set_cons_succ]
            have Bxr0y0_4 := Lib.hid (hupd.blk (show Blk ws3_0.drew br0_0 72 zr0_0 from Bxr0y0_s3_0.out) (fun h => h))
            have Bxr0y1_4 := Lib.hid (hupd.blk (show Blk ws3_0.drew br0_1 72 zr0_1 from Bxr0y1_s3_0.out) (fun h => h))
            have Bxr0y2_4 := Lib.hid (hupd.blk (show Blk ws3_0.drew br0_2 39 zr0_2 from Bxr0y2_s3_0.out) (fun h => h))
            have Bxr0y3_4 := Lib.hid (hupd.blk (show Blk ws3_0.drew br0_3 72 zr0_3 from Bxr0y3_s3_0.out) (fun h => h))
            have Bxr0y4_4 := Lib.hid (hupd.blk (show Blk ws3_0.drew br0_4 72 zr0_4 from Bxr0y4_s3_0.out) (fun h => h))
            have Bxr1y11_4 := Lib.hid (hupd.blk (show Blk ws3_0.drew br1_11 39 ar1_5 from Bxr1y11_s3_0.out) (fun h => h))
            have Bxr1y12_4 := Lib.hid (hupd.blk (show Blk ws3_0.drew br1_12 39 ar1_10 from Bxr1y12_s3_0.out) (fun h => h))
            have Bxr2y8_4 := Lib.hid (hupd.blk (show Blk ws3_0.drew br2_8 39 ar2_7 from Bxr2y8_s3_0.out) (fun h => h))
            have Bxr3y7_4 := Lib.hid (hupd.blk (show Blk ws3_0.drew br3_7 39 ar3_6 from Bxr3y7_s3_0.out) (fun h => h))
            have HU4 := Lib.hid (HU3_0.out.drew.trans hupd)
            clear hupd
            have hf0 : left #[true, true, true, true, true, true, true, true, true, true, true, true, true, true, false, false, false] 17 = 3 := by kernel_rfl
            have hf1 : left #[true, true, true, true, true, true, true, true, true, true, true, true, true, true, false, false, false] 17 ≤ fuel := hf
            obtain ⟨fu, rfl⟩ : ∃ fu, fuel = fu + 3 := ⟨fuel - 3, by omega⟩
            clear hf hf0 hf1
            refine wpAny_bothQ 14 15 (by decide) rfl rfl [14, 15] (by kernel_rfl) (.inl rfl) (by kernel_rfl) (by kernel_rfl) rfl rfl 52 rfl rfl (.agg (ar4_7 ++ ar4_13)) (fun _ => run_buildRatio rfl rfl rfl hCr4_7.size hCr4_13.size _) 72 (.tmp 6) (.tmp 40) rfl br0_3 0 10 rfl rfl ar4_2 rfl rfl 72 zr0_3 Bxr0y3_4.out szRatio hCr4_2.size (by rw [hzr0_3.size]; exact Nat.le_of_ble_eq_true rfl) hCr4_2.one' ?_
            intro ws4_0 hs4_0 hus4_0
            rw [splice_all _ _ 10 hzr0_3.size hCr4_2.size] at hs4_0
            have Bxr0y0_s4_0 := Lib.hid (hus4_0.blk Bxr0y0_4.out (fun e => hner0_0_r0_3.out e))
            have Bxr0y1_s4_0 := Lib.hid (hus4_0.blk Bxr0y1_4.out (fun e => hner0_1_r0_3.out e))
            have Bxr0y2_s4_0 := Lib.hid (hus4_0.blk Bxr0y2_4.out (fun e => hner0_2_r0_3.out e))
            have Bxr0y4_s4_0 := Lib.hid (hus4_0.blk Bxr0y4_4.out (fun e => hner0_3_r0_4.out e.symm))
            have Bxr1y11_s4_0 := Lib.hid (hus4_0.blk Bxr1y11_4.out (fun e => hner1_11_Bxr0y3.out e))
            have Bxr1y12_s4_0 := Lib.hid (hus4_0.blk Bxr1y12_4.out (fun e => hner1_12_Bxr0y3.out e))
            have Bxr2y8_s4_0 := Lib.hid (hus4_0.blk Bxr2y8_4.out (fun e => hner2_8_Bxr0y3_s1_1.out e))
            have Bxr3y7_s4_0 := Lib.hid (hus4_0.blk Bxr3y7_4.out (fun e => hner3_7_Bxr0y3_s2_0.out e))
            have Bxr0y3_s4_0 := Lib.hid hs4_0
            have HU4_0 := Lib.hid (HU4.out.step hus4_0 (fun i hi h => absurd hi (Nat.not_lt.2 (h.symm ▸ hger0_3.out))))
            clear hs4_0 hus4_0
            simp only [List.setIfInBounds_toArray, List.set_cons_zero, List.set_cons_succ]
            refine wpAny_storeQ 16 rfl (by kernel_rfl) rfl rfl 72 (.tmp 7) (.tmp 52) rfl br0_4 0 10 rfl (ar4_7 ++ ar4_13) rfl 72 zr0_4 Bxr0y4_s4_0.out szRatio (hCr4_7.cat hCr4_13).size (by rw [hzr0_4.size]; exact Nat.le_of_ble_eq_true rfl) (hCr4_7.cat hCr4_13).one' ?_
            intro ws4_1 hs4_1 hus4_1
            rw [splice_all _ _ 10 hzr0_4.size (hCr4_7.cat hCr4_13).size] at hs4_1
            have Bxr0y0_s4_1 := Lib.hid (hus4_1.blk Bxr0y0_s4_0.out (fun e => hner0_0_r0_4.out e))
            have Bxr0y1_s4_1 := Lib.hid (hus4_1.blk Bxr0y1_s4_0.out (fun e => hner0_1_r0_4.out e))
            have Bxr0y2_s4_1 := Lib.hid (hus4_1.blk Bxr0y2_s4_0.out (fun e => hner0_2_r0_4.out e))
            have Bxr0y3_s4_1 := Lib.hid (hus4_1.blk Bxr0y3_s4_0.out (fun e => hner0_3_r0_4.out e))
            have Bxr1y11_s4_1 := Lib.hid (hus4_1.blk Bxr1y11_s4_0.out (fun e => hner1_11_Bxr0y4.out e))
            have Bxr1y12_s4_1 := Lib.hid (hus4_1.blk Bxr1y12_s4_0.out (fun e => hner1_12_Bxr0y4.out e))
            have Bxr2y8_s4_1 := Lib.hid (hus4_1.blk Bxr2y8_s4_0.out (fun e => hner2_8_Bxr0y4_s1_1.out e))
            have Bxr3y7_s4_1 := Lib.hid (hus4_1.blk Bxr3y7_s4_0.out (fun e => hner3_7_Bxr0y4_s2_0.out e))
            have Bxr0y4_s4_1 := Lib.hid hs4_1
            have HU4_1 := Lib.hid (HU4_0.out.step hus4_1 (fun i hi h => absurd hi (Nat.not_lt.2 (h.symm ▸ hger0_4.out))))
            clear hs4_1 hus4_1
            refine wpAny_done (by kernel_rfl) ?_ _
            refine hK4 _ _ ?_
            clear hK4
            refine wp_ret ?_
            try dsimp only [Exit.then]
            try dsimp only [Exit.inBlock]
            exact bodyPost_ret (v := .tuple #[.agg ar4_2, .agg (ar4_7 ++ ar4_13)]) (results_cell_row2 (fn := Tryd.f51) (p := 6) (q := 7) (ty := 72) (tq := 72) rfl _ _ br0_3 br0_4 _ _ rfl rfl Bxr0y3_s4_1.out Bxr0y4_s4_1.out Tryd.underlying72 rfl (by rw [hCr4_2.size]; exact szRatio) Tryd.underlying72 rfl (by rw [(hCr4_7.cat hCr4_13).size]; exact szRatio)) rfl ⟨_, _, rfl, hCr4_2, (hCr4_7.cat hCr4_13), HU4_1.out⟩
set_option maxHeartbeats 4000000 in
theorem noneL (w : World) :
    Calls Tryd.prog 49 #[] w (RetC 5 RE [fv 1, 0] w) := by
  have HU := Lib.hid (Upd.refl (fun _ => False) w)
  go_enter Tryd.func49, Tryd.ntmps49
  refine wp_seq_k fun K0 hK0 => ?_
  refine wp_region_qS 1 #[true] [] ([.blk ptrTo 72 (Ch 5 RE [0, 0])] : List SQ) (by kernel_rfl) (by kernel_rfl) (by kernel_rfl) ?_ ?_
  · intro i o listed an wn ho hls hst hun hdep hI hpre K' hK'
    have hi : i = 0 ∨ False := slot_cases (l := [0]) rfl ho hst
    rcases hi with rfl | hi
    · obtain rfl := Option.some.inj ho
      exact hI.newQ (by kernel_rfl) hls (Nat.le_refl _) (newsQ_spec (l := [0]) (by kernel_rfl) ⟨⟨_, _, rfl⟩, trivial⟩) rfl rfl rfl 72 zRatio _ (run_allocQ rfl zRatio_run wn) rfl zRatio_ch hK'
    · exact hi.elim
  · intro an w1 hI
    obtain ⟨vr0_0, hvr0_0, br0_0, zr0_0, rfl, hnr0_0, hbr0_0, hzr0_0⟩ := hI.haveQ 0 _ 0 (.blk ptrTo 72 (Ch 5 RE [0, 0])) rfl rfl rfl rfl
    have hupd := hI.upd
    have ha := hI.act [(0, ptrTo br0_0)] (by simp [hvr0_0]) (by kernel_rfl)
    clear hI hvr0_0
    subst ha
    simp only [List.foldl_cons, List.foldl_nil, List.setIfInBounds_toArray, List.set_cons_zero]
    have hger0_0 := Lib.hid (Nat.le_trans HU.out.size hnr0_0)
    have Bxr0y0 := Lib.hid hbr0_0
    have HU0 := Lib.hid (HU.out.trans hupd)
    clear hupd
    refine wpOps_nil ?_
    refine hK0 _ _ ?_
    clear hK0
    refine wp_seq_k fun K1 hK1 => ?_
    refine wp_region_qS 2 #[true, true, false] [2] ([.like (IsC 5 RE [fv 1]), .like (IsC 5 RE [fv 1, 0]), .val undef] : List SQ) (by kernel_rfl) (by kernel_rfl) (by kernel_rfl) ?_ ?_
    · intro i o listed an wn ho hls hst hun hdep hI hpre K' hK'
      have hi : i = 0 ∨ i = 1 ∨ False := slot_cases (l := [0, 1]) rfl ho hst
      rcases hi with rfl | rfl | hi
      · obtain rfl := Option.some.inj ho
        exact hI.callQ (by kernel_rfl) hls rfl rfl rfl 43 #[.const (.int .u32 1)] _ rfl #[.int .u32 1] (by simp [Act.eval]) (run_enter Tryd.func43 (by kernel_rfl) (by kernel_rfl)) (.like (IsC 5 RE [fv 1])) rfl rfl ((smallE 1 (by decide) (by decide)).mono fun _ _ h => h.sq) hK'
      · obtain rfl := Option.some.inj ho
        obtain ⟨vp, hvp, ap, rfl, hCp⟩ := hI.haveQ 0 _ 1 (.like (IsC 5 RE [fv 1])) rfl rfl rfl (hdep ⟨0, .data⟩ (by simp) rfl)
        exact hI.pureQ (by kernel_rfl) hls rfl rfl rfl _ (run_buildRatio0 rfl (eval_of hvp) hCp.size wn) (.like (IsC 5 RE [fv 1, 0])) rfl ⟨_, rfl, (hCp.cat zE_ch)⟩ rfl hK'
      · exact hi.elim
    · intro an w2 hI
      obtain ⟨vr1_0, hvr1_0, ar1_0, rfl, hCr1_0⟩ := hI.haveQ 0 _ 1 (.like (IsC 5 RE [fv 1])) rfl rfl rfl rfl
      obtain ⟨vr1_1, hvr1_1, ar1_1, rfl, hCr1_1⟩ := hI.haveQ 1 _ 2 (.like (IsC 5 RE [fv 1, 0])) rfl rfl rfl rfl
      have hupd := hI.upd
      have ha := hI.act [(1, .agg ar1_0), (2, .agg ar1_1)] (by simp [hvr1_0, hvr1_1]) (by kernel_rfl)
      clear hI hvr1_0 hvr1_1
      subst ha
      simp only [List.foldl_cons, List.foldl_nil, List.setIfInBounds_toArray, List.set_cons_zero, List.set_cons_succ]
      have Bxr0y0_1 := Lib.hid (hupd.blk (show Blk w1 br0_0 72 zr0_0 from Bxr0y0.out) (fun h => h))
      have HU1 := Lib.hid (HU0.out.trans hupd)
      clear hupd
      refine wpOps_storeQ 2 rfl rfl rfl 72 (.tmp 0) (.tmp 2) rfl br0_0 0 10 rfl ar1_1 rfl 72 zr0_0 Bxr0y0_1.out szRatio hCr1_1.size (by rw [hzr0_0.size]; exact Nat.le_of_ble_eq_true rfl) hCr1_1.one' ?_
      intro ws1_0 hs1_0 hus1_0
      rw [splice_all _ _ 10 hzr0_0.size hCr1_1.size] at hs1_0
      have Bxr0y0_s1_0 := Lib.hid hs1_0
      have HU1_0 := Lib.hid (HU1.out.step hus1_0 (fun i hi h => absurd hi (Nat.not_lt.2 (h.symm ▸ hger0_0.out))))
      clear hs1_0 hus1_0
      refine wpOps_nil ?_
      refine hK1 _ _ ?_
      clear hK1
      refine wp_ret ?_
      try dsimp only [Exit.then]
      try dsimp only [Exit.inBlock]
      exact bodyPost_ret (v := .agg ar1_1) (results_cell_row (fn := Tryd.f49) (p := 0) (ty := 72) rfl _ _ br0_0 72 _ (0, 0) _ rfl Bxr0y0_s1_0.out Tryd.underlying72 rfl (by rw [hCr1_1.size]; exact szRatio)) rfl ⟨_, rfl, hCr1_1, HU1_0.out⟩
set_option maxHeartbeats 4000000 in
theorem dividedL {x z : Fp} {a : Array Value} (w : World) (ha : Ch 5 RE [x, z] a) :
    Calls Tryd.prog 52 #[.agg a] w (RetC 5 RE [x * (finv z)] w) := by
  have HU := Lib.hid (Upd.refl (fun _ => False) w)
  go_enter Tryd.func52, Tryd.ntmps52
  refine wp_seq_k fun K0 hK0 => ?_
  refine wp_region_qS 2 #[true, true] [] ([.blk ptrTo 72 (Ch 5 RE [x, z]), .blk ptrTo 39 (Ch 5 RE [0])] : List SQ) (by kernel_rfl) (by kernel_rfl) (by kernel_rfl) ?_ ?_
  · intro i o listed an wn ho hls hst hun hdep hI hpre K' hK'
    have hi : i = 0 ∨ i = 1 ∨ False := slot_cases (l := [0, 1]) rfl ho hst
    rcases hi with rfl | rfl | hi
    · obtain rfl := Option.some.inj ho
      have hvp : an.eval (.tmp 0) = .agg a := hI.oldQ (by kernel_rfl) rfl
      exact hI.newQ (by kernel_rfl) hls (Nat.le_refl _) (newsQ_spec (l := [0, 1]) (by kernel_rfl) ⟨⟨_, _, rfl⟩, ⟨_, _, rfl⟩, trivial⟩) rfl rfl rfl 72 a _ (run_boxQ rfl hvp wn) rfl ha hK'
    · obtain rfl := Option.some.inj ho
      exact hI.newQ (by kernel_rfl) hls (Nat.le_refl _) (newsQ_spec (l := [0, 1]) (by kernel_rfl) ⟨⟨_, _, rfl⟩, ⟨_, _, rfl⟩, trivial⟩) rfl rfl rfl 39 zE _ (run_allocQ rfl zE_run wn) rfl zE_ch hK'
    · exact hi.elim
  · intro an w1 hI
    obtain ⟨vr0_0, hvr0_0, br0_0, zr0_0, rfl, hnr0_0, hbr0_0, hzr0_0⟩ := hI.haveQ 0 _ 1 (.blk ptrTo 72 (Ch 5 RE [x, z])) rfl rfl rfl rfl
    obtain ⟨vr0_1, hvr0_1, br0_1, zr0_1, rfl, hnr0_1, hbr0_1, hzr0_1⟩ := hI.haveQ 1 _ 2 (.blk ptrTo 39 (Ch 5 RE [0])) rfl rfl rfl rfl
    have hupd := hI.upd
    have hner0_0_r0_1 := Lib.hid (show br0_0 ≠ br0_1 from fun e => hI.apart 0 1 _ _ 1 2 (by omega) rfl rfl rfl rfl rfl rfl rfl rfl (by rw [hvr0_0, hvr0_1, e]))
    have ha := hI.act [(1, ptrTo br0_0), (2, ptrTo br0_1)] (by simp [hvr0_0, hvr0_1]) (by kernel_rfl)
    clear hI hvr0_0 hvr0_1
    subst ha
    simp only [List.foldl_cons, List.foldl_nil, List.setIfInBounds_toArray, List.set_cons_zero, List.set_cons_succ]
    have hger0_0 := Lib.hid (Nat.le_trans HU.out.size hnr0_0)
    have hger0_1 := Lib.hid (Nat.le_trans HU.out.size hnr0_1)
    have Bxr0y0 := Lib.hid hbr0_0
    have Bxr0y1 := Lib.hid hbr0_1
    have HU0 := Lib.hid (HU.out.trans hupd)
    clear hupd
    refine wpOps_nil ?_
    refine hK0 _ _ ?_
    clear hK0
    refine wp_seq_k fun K1 hK1 => ?_
    refine wp_region_q #[true, true, true, true, true, true, false] ([.val (.pointer (some ⟨br0_0, 0 + 0, none⟩)), .val (.agg (zr0_0.extract (0 + 0) (0 + 0 + 5))), .val (.pointer (some ⟨br0_0, 0 + 5, none⟩)), .val (.agg (zr0_0.extract (0 + 5) (0 + 5 + 5))), .like (IsC 5 RE [finv z]), .like (IsC 5 RE [x * (finv z)]), .val undef] : List SQ) (by kernel_rfl) (by kernel_rfl) (by kernel_rfl) ?_ ?_
    · intro i o listed an wn ho hls hst hun hdep hI K' hK'
      have hi : i = 0 ∨ i = 1 ∨ i = 2 ∨ i = 3 ∨ i = 4 ∨ i = 5 ∨ False := slot_cases (l := [0, 1, 2, 3, 4, 5]) rfl ho hst
      rcases hi with rfl | rfl | rfl | rfl | rfl | rfl | hi
      · obtain rfl := Option.some.inj ho
        have hvp : an.eval (.tmp 1) = ptrTo br0_0 := hI.oldQ (by kernel_rfl) rfl
        exact hI.pureQ (by kernel_rfl) hls rfl rfl rfl (.pointer (some ⟨br0_0, 0 + 0, none⟩)) (run_fieldQ (g := br0_0) (off := 0) (k := 0) rfl hvp Tryd.underlying72 rfl (by rfl) szE wn) (.val (.pointer (some ⟨br0_0, 0 + 0, none⟩))) rfl rfl rfl hK'
      · obtain rfl := Option.some.inj ho
        obtain ⟨vp, hvp, hsp⟩ := hI.haveQ 0 _ 3 (.val (.pointer (some ⟨br0_0, 0 + 0, none⟩))) rfl rfl rfl (hdep ⟨0, .data⟩ (by simp) rfl)
        obtain rfl := hsp
        exact hI.pureQ (by kernel_rfl) hls rfl rfl rfl (.agg (zr0_0.extract (0 + 0) (0 + 0 + 5))) (run_loadQ rfl (eval_of hvp) wn (hI.upd.blk (show Blk w1.drew br0_0 72 zr0_0 from Bxr0y0.out) (fun h => h)) Tryd.underlying39 rfl szE (by rw [hzr0_0.size]; exact Nat.le_of_ble_eq_true rfl)) (.val (.agg (zr0_0.extract (0 + 0) (0 + 0 + 5)))) rfl rfl rfl hK'
      · obtain rfl := Option.some.inj ho
        have hvp : an.eval (.tmp 1) = ptrTo br0_0 := hI.oldQ (by kernel_rfl) rfl
        exact hI.pureQ (by kernel_rfl) hls rfl rfl rfl (.pointer (some ⟨br0_0, 0 + 5, none⟩)) (run_fieldQ (g := br0_0) (off := 0) (k := 5) rfl hvp Tryd.underlying72 rfl (by rfl) szE wn) (.val (.pointer (some ⟨br0_0, 0 + 5, none⟩))) rfl rfl rfl hK'
      · obtain rfl := Option.some.inj ho
        obtain ⟨vp, hvp, hsp⟩ := hI.haveQ 2 _ 5 (.val (.pointer (some ⟨br0_0, 0 + 5, none⟩))) rfl rfl rfl (hdep ⟨2, .data⟩ (by simp) rfl)
        obtain rfl := hsp
        exact hI.pureQ (by kernel_rfl) hls rfl rfl rfl (.agg (zr0_0.extract (0 + 5) (0 + 5 + 5))) (run_loadQ rfl (eval_of hvp) wn (hI.upd.blk (show Blk w1.drew br0_0 72 zr0_0 from Bxr0y0.out) (fun h => h)) Tryd.underlying39 rfl szE (by rw [hzr0_0.size]; exact Nat.le_of_ble_eq_true rfl)) (.val (.agg (zr0_0.extract (0 + 5) (0 + 5 + 5)))) rfl rfl rfl hK'
      · obtain rfl := Option.some.inj ho
        obtain ⟨vp, hvp, hsp⟩ := hI.haveQ 3 _ 6 (.val (.agg (zr0_0.extract (0 + 5) (0 + 5 + 5)))) rfl rfl rfl (hdep ⟨3, .data⟩ (by simp) rfl)
        obtain rfl := hsp
        exact hI.callQ (by kernel_rfl) hls rfl rfl rfl 47 #[.tmp 6] _ rfl #[.agg (zr0_0.extract (0 + 5) (0 + 5 + 5))] (by simp [eval_of hvp]) (run_enter Tryd.func47 (by kernel_rfl) (by kernel_rfl)) (.like (IsC 5 RE [finv z])) rfl rfl ((invE (hzr0_0.at 1 (0 + 5) rfl rfl)).mono fun _ _ h => h.sq) hK'
      · obtain rfl := Option.some.inj ho
        obtain ⟨vp, hvp, hsp⟩ := hI.haveQ 1 _ 4 (.val (.agg (zr0_0.extract (0 + 0) (0 + 0 + 5)))) rfl rfl rfl (hdep ⟨1, .data⟩ (by simp) rfl)
        obtain rfl := hsp
        obtain ⟨vq, hvq, aq, rfl, hCq⟩ := hI.haveQ 4 _ 7 (.like (IsC 5 RE [finv z])) rfl rfl rfl (hdep ⟨4, .data⟩ (by simp) rfl)
        exact hI.callQ (by kernel_rfl) hls rfl rfl rfl 44 #[.tmp 4, .tmp 7] _ rfl #[.agg (zr0_0.extract (0 + 0) (0 + 0 + 5)), .agg aq] (by simp [eval_of hvp, eval_of hvq]) (run_enter Tryd.func44 (by kernel_rfl) (by kernel_rfl)) (.like (IsC 5 RE [x * (finv z)])) rfl rfl ((mulE (hzr0_0.at 0 (0 + 0) rfl rfl) hCq).mono fun _ _ h => h.sq) hK'
      · exact hi.elim
    · intro fuel an w2 hf hI
      obtain ⟨vr1_0, hvr1_0, hsr1_0⟩ := hI.haveQ 0 _ 3 (.val (.pointer (some ⟨br0_0, 0 + 0, none⟩))) rfl rfl rfl rfl
      obtain rfl := hsr1_0
      obtain ⟨vr1_1, hvr1_1, hsr1_1⟩ := hI.haveQ 1 _ 4 (.val (.agg (zr0_0.extract (0 + 0) (0 + 0 + 5)))) rfl rfl rfl rfl
      obtain rfl := hsr1_1
      obtain ⟨vr1_2, hvr1_2, hsr1_2⟩ := hI.haveQ 2 _ 5 (.val (.pointer (some ⟨br0_0, 0 + 5, none⟩))) rfl rfl rfl rfl
      obtain rfl := hsr1_2
      obtain ⟨vr1_3, hvr1_3, hsr1_3⟩ := hI.haveQ 3 _ 6 (.val (.agg (zr0_0.extract (0 + 5) (0 + 5 + 5)))) rfl rfl rfl rfl
      obtain rfl := hsr1_3
      obtain ⟨vr1_4, hvr1_4, ar1_4, rfl, hCr1_4⟩ := hI.haveQ 4 _ 7 (.like (IsC 5 RE [finv z])) rfl rfl rfl rfl
      obtain ⟨vr1_5, hvr1_5, ar1_5, rfl, hCr1_5⟩ := hI.haveQ 5 _ 8 (.like (IsC 5 RE [x * (finv z)])) rfl rfl rfl rfl
      have hupd := hI.upd
      have ha := hI.act [(3, .pointer (some ⟨br0_0, 0 + 0, none⟩)), (4, .agg (zr0_0.extract (0 + 0) (0 + 0 + 5))), (5, .pointer (some ⟨br0_0, 0 + 5, none⟩)), (6, .agg (zr0_0.extract (0 + 5) (0 + 5 + 5))), (7, .agg ar1_4), (8, .agg ar1_5)] (by simp [hvr1_0, hvr1_1, hvr1_2, hvr1_3, hvr1_4, hvr1_5]) (by kernel_rfl)
      clear hI hvr1_0 hvr1_1 hvr1_2 hvr1_3 hvr1_4 hvr1_5
      subst ha
      simp only [List.foldl_cons, List.foldl_nil, List.setIfInBounds_toArray, List.set_cons_zero, List.set_cons_succ]
      have Bxr0y0_1 := Lib.hid (hupd.blk (show Blk w1.drew br0_0 72 zr0_0 from Bxr0y0.out) (fun h => h))
      have Bxr0y1_1 := Lib.hid (hupd.blk (show Blk w1.drew br0_1 39 zr0_1 from Bxr0y1.out) (fun h => h))
      have HU1 := Lib.hid (HU0.out.drew.trans hupd)
      clear hupd
      have hf0 : left #[true, true, true, true, true, true, false] 7 = 1 := by kernel_rfl
      have hf1 : left #[true, true, true, true, true, true, false] 7 ≤ fuel := hf
      obtain ⟨fu, rfl⟩ : ∃ fu, fuel = fu + 1 := ⟨fuel - 1, by omega⟩
      clear hf hf0 hf1
      refine wpAny_storeQ 6 rfl (by kernel_rfl) rfl rfl 39 (.tmp 2) (.tmp 8) rfl br0_1 0 5 rfl ar1_5 rfl 39 zr0_1 Bxr0y1_1.out szE hCr1_5.size (by rw [hzr0_1.size]; exact Nat.le_of_ble_eq_true rfl) hCr1_5.one' ?_
      intro ws1_0 hs1_0 hus1_0
      rw [splice_all _ _ 5 hzr0_1.size hCr1_5.size] at hs1_0
      have Bxr0y0_s1_0 := Lib.hid (hus1_0.blk Bxr0y0_1.out (fun e => hner0_0_r0_1.out e))
      have Bxr0y1_s1_0 := Lib.hid hs1_0
      have HU1_0 := Lib.hid (HU1.out.step hus1_0 (fun i hi h => absurd hi (Nat.not_lt.2 (h.symm ▸ hger0_1.out))))
      clear hs1_0 hus1_0
      refine wpAny_done (by kernel_rfl) ?_ _
      refine hK1 _ _ ?_
      clear hK1
      refine wp_ret ?_
      try dsimp only [Exit.then]
      try dsimp only [Exit.inBlock]
      exact bodyPost_ret (v := .agg ar1_5) (results_cell_row (fn := Tryd.f52) (p := 2) (ty := 39) rfl _ _ br0_1 39 _ (0, 0) _ rfl Bxr0y1_s1_0.out Tryd.underlying39 rfl (by rw [hCr1_5.size]; exact szE)) rfl ⟨_, rfl, hCr1_5, HU1_0.out⟩
set_option maxHeartbeats 4000000 in
theorem turnedL {t : Bool} {x1 z1 x2 z2 : Fp} {a b : Array Value} (w : World) (ha : Ch 5 RE [x1, z1] a) (hb : Ch 5 RE [x2, z2] b) :
    Calls Tryd.prog 50 #[.bool t, .agg a, .agg b] w (RetC2 5 RE [if t then x2 else x1, if t then z2 else z1] [if t then x1 else x2, if t then z1 else z2] w) := by
  have HU := Lib.hid (Upd.refl (fun _ => False) w)
  go_enter Tryd.func50, Tryd.ntmps50
  refine wp_seq_k fun K0 hK0 => ?_
  refine wp_region_qS 4 #[true, true, true, true] [] ([.blk ptrTo 72 (Ch 5 RE [x1, z1]), .blk ptrTo 72 (Ch 5 RE [x2, z2]), .blk ptrTo 72 (Ch 5 RE [0, 0]), .blk ptrTo 72 (Ch 5 RE [0, 0])] : List SQ) (by kernel_rfl) (by kernel_rfl) (by kernel_rfl) ?_ ?_
  · intro i o listed an wn ho hls hst hun hdep hI hpre K' hK'
    have hi : i = 0 ∨ i = 1 ∨ i = 2 ∨ i = 3 ∨ False := slot_cases (l := [0, 1, 2, 3]) rfl ho hst
    rcases hi with rfl | rfl | rfl | rfl | hi
    · obtain rfl := Option.some.inj ho
      have hvp : an.eval (.tmp 1) = .agg a := hI.oldQ (by kernel_rfl) rfl
      exact hI.newQ (by kernel_rfl) hls (Nat.le_refl _) (newsQ_spec (l := [0, 1, 2, 3]) (by kernel_rfl) ⟨⟨_, _, rfl⟩, ⟨_, _, rfl⟩, ⟨_, _, rfl⟩, ⟨_, _, rfl⟩, trivial⟩) rfl rfl rfl 72 a _ (run_boxQ rfl hvp wn) rfl ha hK'
    · obtain rfl := Option.some.inj ho
      have hvp : an.eval (.tmp 2) = .agg b := hI.oldQ (by kernel_rfl) rfl
      exact hI.newQ (by kernel_rfl) hls (Nat.le_refl _) (newsQ_spec (l := [0, 1, 2, 3]) (by kernel_rfl) ⟨⟨_, _, rfl⟩, ⟨_, _, rfl⟩, ⟨_, _, rfl⟩, ⟨_, _, rfl⟩, trivial⟩) rfl rfl rfl 72 b _ (run_boxQ rfl hvp wn) rfl hb hK'
    · obtain rfl := Option.some.inj ho
      exact hI.newQ (by kernel_rfl) hls (Nat.le_refl _) (newsQ_spec (l := [0, 1, 2, 3]) (by kernel_rfl) ⟨⟨_, _, rfl⟩, ⟨_, _, rfl⟩, ⟨_, _, rfl⟩, ⟨_, _, rfl⟩, trivial⟩) rfl rfl rfl 72 zRatio _ (run_allocQ rfl zRatio_run wn) rfl zRatio_ch hK'
    · obtain rfl := Option.some.inj ho
      exact hI.newQ (by kernel_rfl) hls (Nat.le_refl _) (newsQ_spec (l := [0, 1, 2, 3]) (by kernel_rfl) ⟨⟨_, _, rfl⟩, ⟨_, _, rfl⟩, ⟨_, _, rfl⟩, ⟨_, _, rfl⟩, trivial⟩) rfl rfl rfl 72 zRatio _ (run_allocQ rfl zRatio_run wn) rfl zRatio_ch hK'
    · exact hi.elim
  · intro an w1 hI
    obtain ⟨vr0_0, hvr0_0, br0_0, zr0_0, rfl, hnr0_0, hbr0_0, hzr0_0⟩ := hI.haveQ 0 _ 4 (.blk ptrTo 72 (Ch 5 RE [x1, z1])) rfl rfl rfl rfl
    obtain ⟨vr0_1, hvr0_1, br0_1, zr0_1, rfl, hnr0_1, hbr0_1, hzr0_1⟩ := hI.haveQ 1 _ 5 (.blk ptrTo 72 (Ch 5 RE [x2, z2])) rfl rfl rfl rfl
    obtain ⟨vr0_2, hvr0_2, br0_2, zr0_2, rfl, hnr0_2, hbr0_2, hzr0_2⟩ := hI.haveQ 2 _ 6 (.blk ptrTo 72 (Ch 5 RE [0, 0])) rfl rfl rfl rfl
    obtain ⟨vr0_3, hvr0_3, br0_3, zr0_3, rfl, hnr0_3, hbr0_3, hzr0_3⟩ := hI.haveQ 3 _ 7 (.blk ptrTo 72 (Ch 5 RE [0, 0])) rfl rfl rfl rfl
    have hupd := hI.upd
    have hner0_0_r0_1 := Lib.hid (show br0_0 ≠ br0_1 from fun e => hI.apart 0 1 _ _ 4 5 (by omega) rfl rfl rfl rfl rfl rfl rfl rfl (by rw [hvr0_0, hvr0_1, e]))
    have hner0_0_r0_2 := Lib.hid (show br0_0 ≠ br0_2 from fun e => hI.apart 0 2 _ _ 4 6 (by omega) rfl rfl rfl rfl rfl rfl rfl rfl (by rw [hvr0_0, hvr0_2, e]))
    have hner0_0_r0_3 := Lib.hid (show br0_0 ≠ br0_3 from fun e => hI.apart 0 3 _ _ 4 7 (by omega) rfl rfl rfl rfl rfl rfl rfl rfl (by rw [hvr0_0, hvr0_3, e]))
    have hner0_1_r0_2 := Lib.hid (show br0_1 ≠ br0_2 from fun e => hI.apart 1 2 _ _ 5 6 (by omega) rfl rfl rfl rfl rfl rfl rfl rfl (by rw [hvr0_1, hvr0_2, e]))
    have hner0_1_r0_3 := Lib.hid (show br0_1 ≠ br0_3 from fun e => hI.apart 1 3 _ _ 5 7 (by omega) rfl rfl rfl rfl rfl rfl rfl rfl (by rw [hvr0_1, hvr0_3, e]))
    have hner0_2_r0_3 := Lib.hid (show br0_2 ≠ br0_3 from fun e => hI.apart 2 3 _ _ 6 7 (by omega) rfl rfl rfl rfl rfl rfl rfl rfl (by rw [hvr0_2, hvr0_3, e]))
    have ha := hI.act [(4, ptrTo br0_0), (5, ptrTo br0_1), (6, ptrTo br0_2), (7, ptrTo br0_3)] (by simp [hvr0_0, hvr0_1, hvr0_2, hvr0_3]) (by kernel_rfl)
    clear hI hvr0_0 hvr0_1 hvr0_2 hvr0_3
    subst ha
    simp only [List.foldl_cons, List.foldl_nil, List.setIfInBounds_toArray, List.set_cons_zero, List.set_cons_succ]
    have hger0_0 := Lib.hid (Nat.le_trans HU.out.size hnr0_0)
    have hger0_1 := Lib.hid (Nat.le_trans HU.out.size hnr0_1)
    have hger0_2 := Lib.hid (Nat.le_trans HU.out.size hnr0_2)
    have hger0_3 := Lib.hid (Nat.le_trans HU.out.size hnr0_3)
    have Bxr0y0 := Lib.hid hbr0_0
    have Bxr0y1 := Lib.hid hbr0_1
    have Bxr0y2 := Lib.hid hbr0_2
    have Bxr0y3 := Lib.hid hbr0_3
    have HU0 := Lib.hid (HU.out.trans hupd)
    clear hupd
    refine wpOps_nil ?_
    refine hK0 _ _ ?_
    clear hK0
    refine wp_seq_k fun K1 hK1 => ?_
    refine wp_region_qS 2 #[true, true] [] ([.blk ptrTo 72 (Ch 5 RE [0, 0]), .blk ptrTo 72 (Ch 5 RE [0, 0])] : List SQ) (by kernel_rfl) (by kernel_rfl) (by kernel_rfl) ?_ ?_
    · intro i o listed an wn ho hls hst hun hdep hI hpre K' hK'
      have hi : i = 0 ∨ i = 1 ∨ False := slot_cases (l := [0, 1]) rfl ho hst
      rcases hi with rfl | rfl | hi
      · obtain rfl := Option.some.inj ho
        exact hI.newQ (by kernel_rfl) hls (Nat.le_refl _) (newsQ_spec (l := [0, 1]) (by kernel_rfl) ⟨⟨_, _, rfl⟩, ⟨_, _, rfl⟩, trivial⟩) rfl rfl rfl 72 zRatio _ (run_allocQ rfl zRatio_run wn) rfl zRatio_ch hK'
      · obtain rfl := Option.some.inj ho
        exact hI.newQ (by kernel_rfl) hls (Nat.le_refl _) (newsQ_spec (l := [0, 1]) (by kernel_rfl) ⟨⟨_, _, rfl⟩, ⟨_, _, rfl⟩, trivial⟩) rfl rfl rfl 72 zRatio _ (run_allocQ rfl zRatio_run wn) rfl zRatio_ch hK'
      · exact hi.elim
    · intro an w2 hI
      obtain ⟨vr1_0, hvr1_0, br1_0, zr1_0, rfl, hnr1_0, hbr1_0, hzr1_0⟩ := hI.haveQ 0 _ 8 (.blk ptrTo 72 (Ch 5 RE [0, 0])) rfl rfl rfl rfl
      obtain ⟨vr1_1, hvr1_1, br1_1, zr1_1, rfl, hnr1_1, hbr1_1, hzr1_1⟩ := hI.haveQ 1 _ 9 (.blk ptrTo 72 (Ch 5 RE [0, 0])) rfl rfl rfl rfl
      have hupd := hI.upd
      have hner1_0_r1_1 := Lib.hid (show br1_0 ≠ br1_1 from fun e => hI.apart 0 1 _ _ 8 9 (by omega) rfl rfl rfl rfl rfl rfl rfl rfl (by rw [hvr1_0, hvr1_1, e]))
      have ha := hI.act [(8, ptrTo br1_0), (9, ptrTo br1_1)] (by simp [hvr1_0, hvr1_1]) (by kernel_rfl)
      clear hI hvr1_0 hvr1_1
      subst ha
      simp only [List.foldl_cons, List.foldl_nil, List.setIfInBounds_toArray, List.set_cons_zero, List.set_cons_succ]
      have hner1_0_Bxr0y0 := Lib.hid (show br1_0 ≠ br0_0 from Nat.ne_of_gt (Nat.lt_of_lt_of_le Bxr0y0.out.lt hnr1_0))
      have hner1_0_Bxr0y1 := Lib.hid (show br1_0 ≠ br0_1 from Nat.ne_of_gt (Nat.lt_of_lt_of_le Bxr0y1.out.lt hnr1_0))
      have hner1_0_Bxr0y2 := Lib.hid (show br1_0 ≠ br0_2 from Nat.ne_of_gt (Nat.lt_of_lt_of_le Bxr0y2.out.lt hnr1_0))
      have hner1_0_Bxr0y3 := Lib.hid (show br1_0 ≠ br0_3 from Nat.ne_of_gt (Nat.lt_of_lt_of_le Bxr0y3.out.lt hnr1_0))
      have hger1_0 := Lib.hid (Nat.le_trans HU0.out.size hnr1_0)
      have hner1_1_Bxr0y0 := Lib.hid (show br1_1 ≠ br0_0 from Nat.ne_of_gt (Nat.lt_of_lt_of_le Bxr0y0.out.lt hnr1_1))
      have hner1_1_Bxr0y1 := Lib.hid (show br1_1 ≠ br0_1 from Nat.ne_of_gt (Nat.lt_of_lt_of_le Bxr0y1.out.lt hnr1_1))
      have hner1_1_Bxr0y2 := Lib.hid (show br1_1 ≠ br0_2 from Nat.ne_of_gt (Nat.lt_of_lt_of_le Bxr0y2.out.lt hnr1_1))
      have hner1_1_Bxr0y3 := Lib.hid (show br1_1 ≠ br0_3 from Nat.ne_of_gt (Nat.lt_of_lt_of_le Bxr0y3.out.lt hnr1_1))
      have hger1_1 := Lib.hid (Nat.le_trans HU0.out.size hnr1_1)
      have Bxr0y0_1 := Lib.hid (hupd.blk (show Blk w1 br0_0 72 zr0_0 from Bxr0y0.out) (fun h => h))
      have Bxr0y1_1 := Lib.hid (hupd.blk (show Blk w1 br0_1 72 zr0_1 from Bxr0y1.out) (fun h => h))
      have Bxr0y2_1 := Lib.hid (hupd.blk (show Blk w1 br0_2 72 zr0_2 from Bxr0y2.out) (fun h => h))
      have Bxr0y3_1 := Lib.hid (hupd.blk (show Blk w1 br0_3 72 zr0_3 from Bxr0y3.out) (fun h => h))
      have Bxr1y0 := Lib.hid hbr1_0
      have Bxr1y1 := Lib.hid hbr1_1
      have HU1 := Lib.hid (HU0.out.trans hupd)
      clear hupd
      refine wpOps_nil ?_
      refine hK1 _ _ ?_
      clear hK1
      refine wp_seq_k fun K2 hK2 => ?_
      refine wp_region_qS 10 #[true, true, true, true, true, true, true, true, true, true, false, false, false] [10, 11, 12] ([.val (.bool t), .val (.pointer (some ⟨br0_0, 0 + 0, none⟩)), .val (.agg (zr0_0.extract (0 + 0) (0 + 0 + 5))), .val (.pointer (some ⟨br0_1, 0 + 0, none⟩)), .val (.agg (zr0_1.extract (0 + 0) (0 + 0 + 5))), .val (swapped t (zr0_0.extract (0 + 0) (0 + 0 + 5)) (zr0_1.extract (0 + 0) (0 + 0 + 5))), .val (swapped t (zr0_0.extract (0 + 0) (0 + 0 + 5)) (zr0_1.extract (0 + 0) (0 + 0 + 5))), .val (.agg (if t then zr0_1.extract (0 + 0) (0 + 0 + 5) else zr0_0.extract (0 + 0) (0 + 0 + 5))), .val (.agg (if t then zr0_0.extract (0 + 0) (0 + 0 + 5) else zr0_1.extract (0 + 0) (0 + 0 + 5))), .val (.pointer (some ⟨br1_0, 0 + 0, none⟩)), .val undef, .val undef, .val undef] : List SQ) (by kernel_rfl) (by kernel_rfl) (by kernel_rfl) ?_ ?_
      · intro i o listed an wn ho hls hst hun hdep hI hpre K' hK'
        have hi : i = 0 ∨ i = 1 ∨ i = 2 ∨ i = 3 ∨ i = 4 ∨ i = 5 ∨ i = 6 ∨ i = 7 ∨ i = 8 ∨ i = 9 ∨ False := slot_cases (l := [0, 1, 2, 3, 4, 5, 6, 7, 8, 9]) rfl ho hst
        rcases hi with rfl | rfl | rfl | rfl | rfl | rfl | rfl | rfl | rfl | rfl | hi
        · obtain rfl := Option.some.inj ho
          have hvp : an.eval (.tmp 0) = .bool t := hI.oldQ (by kernel_rfl) rfl
          exact hI.pureQ (by kernel_rfl) hls rfl rfl rfl (.bool t) (run_moveQ (.inl rfl) hvp wn) (.val (.bool t)) rfl rfl rfl hK'
        · obtain rfl := Option.some.inj ho
          have hvp : an.eval (.tmp 4) = ptrTo br0_0 := hI.oldQ (by kernel_rfl) rfl
          exact hI.pureQ (by kernel_rfl) hls rfl rfl rfl (.pointer (some ⟨br0_0, 0 + 0, none⟩)) (run_fieldQ (g := br0_0) (off := 0) (k := 0) rfl hvp Tryd.underlying72 rfl (by rfl) szE wn) (.val (.pointer (some ⟨br0_0, 0 + 0, none⟩))) rfl rfl rfl hK'
        · obtain rfl := Option.some.inj ho
          obtain ⟨vp, hvp, hsp⟩ := hI.haveQ 1 _ 12 (.val (.pointer (some ⟨br0_0, 0 + 0, none⟩))) rfl rfl rfl (hdep ⟨1, .data⟩ (by simp) rfl)
          obtain rfl := hsp
          exact hI.pureQ (by kernel_rfl) hls rfl rfl rfl (.agg (zr0_0.extract (0 + 0) (0 + 0 + 5))) (run_loadQ rfl (eval_of hvp) wn (hI.upd.blk (show Blk w2 br0_0 72 zr0_0 from Bxr0y0_1.out) (fun h => h)) Tryd.underlying39 rfl szE (by rw [hzr0_0.size]; exact Nat.le_of_ble_eq_true rfl)) (.val (.agg (zr0_0.extract (0 + 0) (0 + 0 + 5)))) rfl rfl rfl hK'
        · obtain rfl := Option.some.inj ho
          have hvp : an.eval (.tmp 5) = ptrTo br0_1 := hI.oldQ (by kernel_rfl) rfl
          exact hI.pureQ (by kernel_rfl) hls rfl rfl rfl (.pointer (some ⟨br0_1, 0 + 0, none⟩)) (run_fieldQ (g := br0_1) (off := 0) (k := 0) rfl hvp Tryd.underlying72 rfl (by rfl) szE wn) (.val (.pointer (some ⟨br0_1, 0 + 0, none⟩))) rfl rfl rfl hK'
        · obtain rfl := Option.some.inj ho
          obtain ⟨vp, hvp, hsp⟩ := hI.haveQ 3 _ 14 (.val (.pointer (some ⟨br0_1, 0 + 0, none⟩))) rfl rfl rfl (hdep ⟨3, .data⟩ (by simp) rfl)
          obtain rfl := hsp
          exact hI.pureQ (by kernel_rfl) hls rfl rfl rfl (.agg (zr0_1.extract (0 + 0) (0 + 0 + 5))) (run_loadQ rfl (eval_of hvp) wn (hI.upd.blk (show Blk w2 br0_1 72 zr0_1 from Bxr0y1_1.out) (fun h => h)) Tryd.underlying39 rfl szE (by rw [hzr0_1.size]; exact Nat.le_of_ble_eq_true rfl)) (.val (.agg (zr0_1.extract (0 + 0) (0 + 0 + 5)))) rfl rfl rfl hK'
        · obtain rfl := Option.some.inj ho
          obtain ⟨vp, hvp, hsp⟩ := hI.haveQ 0 _ 11 (.val (.bool t)) rfl rfl rfl (hdep ⟨0, .data⟩ (by simp) rfl)
          obtain rfl := hsp
          obtain ⟨vq, hvq, hsq⟩ := hI.haveQ 2 _ 13 (.val (.agg (zr0_0.extract (0 + 0) (0 + 0 + 5)))) rfl rfl rfl (hdep ⟨2, .data⟩ (by simp) rfl)
          obtain rfl := hsq
          obtain ⟨vr, hvr, hsr⟩ := hI.haveQ 4 _ 15 (.val (.agg (zr0_1.extract (0 + 0) (0 + 0 + 5)))) rfl rfl rfl (hdep ⟨4, .data⟩ (by simp) rfl)
          obtain rfl := hsr
          exact hI.callQ (by kernel_rfl) hls rfl rfl rfl 85 #[.tmp 11, .tmp 13, .tmp 15] _ rfl #[.bool t, .agg (zr0_0.extract (0 + 0) (0 + 0 + 5)), .agg (zr0_1.extract (0 + 0) (0 + 0 + 5))] (by simp [eval_of hvp, eval_of hvq, eval_of hvr]) (run_enter Tryd.func85 (by kernel_rfl) (by kernel_rfl)) (.val (swapped t (zr0_0.extract (0 + 0) (0 + 0 + 5)) (zr0_1.extract (0 + 0) (0 + 0 + 5)))) rfl rfl ((swapE t (hzr0_0.at 0 (0 + 0) rfl rfl) (hzr0_1.at 0 (0 + 0) rfl rfl)).mono fun _ _ h => ret_val h) hK'
        · obtain rfl := Option.some.inj ho
          obtain ⟨vp, hvp, hsp⟩ := hI.haveQ 5 _ 16 (.val (swapped t (zr0_0.extract (0 + 0) (0 + 0 + 5)) (zr0_1.extract (0 + 0) (0 + 0 + 5)))) rfl rfl rfl (hdep ⟨5, .data⟩ (by simp) rfl)
          obtain rfl := hsp
          exact hI.pureQ (by kernel_rfl) hls rfl rfl rfl (swapped t (zr0_0.extract (0 + 0) (0 + 0 + 5)) (zr0_1.extract (0 + 0) (0 + 0 + 5))) (run_moveQ (.inl rfl) (eval_of hvp) wn) (.val (swapped t (zr0_0.extract (0 + 0) (0 + 0 + 5)) (zr0_1.extract (0 + 0) (0 + 0 + 5)))) rfl rfl rfl hK'
        · obtain rfl := Option.some.inj ho
          obtain ⟨vp, hvp, hsp⟩ := hI.haveQ 6 _ 10 (.val (swapped t (zr0_0.extract (0 + 0) (0 + 0 + 5)) (zr0_1.extract (0 + 0) (0 + 0 + 5)))) rfl rfl rfl (hdep ⟨6, .data⟩ (by simp) rfl)
          obtain rfl := hsp
          exact hI.pureQ (by kernel_rfl) hls rfl rfl rfl (.agg (if t then zr0_1.extract (0 + 0) (0 + 0 + 5) else zr0_0.extract (0 + 0) (0 + 0 + 5))) (run_swap0 rfl (eval_of hvp) wn) (.val (.agg (if t then zr0_1.extract (0 + 0) (0 + 0 + 5) else zr0_0.extract (0 + 0) (0 + 0 + 5)))) rfl rfl rfl hK'
        · obtain rfl := Option.some.inj ho
          obtain ⟨vp, hvp, hsp⟩ := hI.haveQ 6 _ 10 (.val (swapped t (zr0_0.extract (0 + 0) (0 + 0 + 5)) (zr0_1.extract (0 + 0) (0 + 0 + 5)))) rfl rfl rfl (hdep ⟨6, .data⟩ (by simp) rfl)
          obtain rfl := hsp
          exact hI.pureQ (by kernel_rfl) hls rfl rfl rfl (.agg (if t then zr0_0.extract (0 + 0) (0 + 0 + 5) else zr0_1.extract (0 + 0) (0 + 0 + 5))) (run_swap1 rfl (eval_of hvp) wn) (.val (.agg (if t then zr0_0.extract (0 + 0) (0 + 0 + 5) else zr0_1.extract (0 + 0) (0 + 0 + 5)))) rfl rfl rfl hK'
        · obtain rfl := Option.some.inj ho
          have hvp : an.eval (.tmp 8) = ptrTo br1_0 := hI.oldQ (by kernel_rfl) rfl
          exact hI.pureQ (by kernel_rfl) hls rfl rfl rfl (.pointer (some ⟨br1_0, 0 + 0, none⟩)) (run_fieldQ (g := br1_0) (off := 0) (k := 0) rfl hvp Tryd.underlying72 rfl (by rfl) szE wn) (.val (.pointer (some ⟨br1_0, 0 + 0, none⟩))) rfl rfl rfl hK'
        · exact hi.elim
      · intro an w3 hI
        obtain ⟨vr2_0, hvr2_0, hsr2_0⟩ := hI.haveQ 0 _ 11 (.val (.bool t)) rfl rfl rfl rfl
        obtain rfl := hsr2_0
        obtain ⟨vr2_1, hvr2_1, hsr2_1⟩ := hI.haveQ 1 _ 12 (.val (.pointer (some ⟨br0_0, 0 + 0, none⟩))) rfl rfl rfl rfl
        obtain rfl := hsr2_1
        obtain ⟨vr2_2, hvr2_2, hsr2_2⟩ := hI.haveQ 2 _ 13 (.val (.agg (zr0_0.extract (0 + 0) (0 + 0 + 5)))) rfl rfl rfl rfl
        obtain rfl := hsr2_2
        obtain ⟨vr2_3, hvr2_3, hsr2_3⟩ := hI.haveQ 3 _ 14 (.val (.pointer (some ⟨br0_1, 0 + 0, none⟩))) rfl rfl rfl rfl
        obtain rfl := hsr2_3
        obtain ⟨vr2_4, hvr2_4, hsr2_4⟩ := hI.haveQ 4 _ 15 (.val (.agg (zr0_1.extract (0 + 0) (0 + 0 + 5)))) rfl rfl rfl rfl
        obtain rfl := hsr2_4
        obtain ⟨vr2_5, hvr2_5, hsr2_5⟩ := hI.haveQ 5 _ 16 (.val (swapped t (zr0_0.extract (0 + 0) (0 + 0 + 5)) (zr0_1.extract (0 + 0) (0 + 0 + 5)))) rfl rfl rfl rfl
        obtain rfl := hsr2_5
        obtain ⟨vr2_6, hvr2_6, hsr2_6⟩ := hI.haveQ 6 _ 10 (.val (swapped t (zr0_0.extract (0 + 0) (0 + 0 + 5)) (zr0_1.extract (0 + 0) (0 + 0 + 5)))) rfl rfl rfl rfl
        obtain rfl := hsr2_6
        obtain ⟨vr2_7, hvr2_7, hsr2_7⟩ := hI.haveQ 7 _ 17 (.val (.agg (if t then zr0_1.extract (0 + 0) (0 + 0 + 5) else zr0_0.extract (0 + 0) (0 + 0 + 5)))) rfl rfl rfl rfl
        obtain rfl := hsr2_7
        obtain ⟨vr2_8, hvr2_8, hsr2_8⟩ := hI.haveQ 8 _ 18 (.val (.agg (if t then zr0_0.extract (0 + 0) (0 + 0 + 5) else zr0_1.extract (0 + 0) (0 + 0 + 5)))) rfl rfl rfl rfl
        obtain rfl := hsr2_8
        obtain ⟨vr2_9, hvr2_9, hsr2_9⟩ := hI.haveQ 9 _ 19 (.val (.pointer (some ⟨br1_0, 0 + 0, none⟩))) rfl rfl rfl rfl
        obtain rfl := hsr2_9
        have hupd := hI.upd
        have ha := hI.act [(11, .bool t), (12, .pointer (some ⟨br0_0, 0 + 0, none⟩)), (13, .agg (zr0_0.extract (0 + 0) (0 + 0 + 5))), (14, .pointer (some ⟨br0_1, 0 + 0, none⟩)), (15, .agg (zr0_1.extract (0 + 0) (0 + 0 + 5))), (16, swapped t (zr0_0.extract (0 + 0) (0 + 0 + 5)) (zr0_1.extract (0 + 0) (0 + 0 + 5))), (10, swapped t (zr0_0.extract (0 + 0) (0 + 0 + 5)) (zr0_1.extract (0 + 0) (0 + 0 + 5))), (17, .agg (if t then zr0_1.extract (0 + 0) (0 + 0 + 5) else zr0_0.extract (0 + 0) (0 + 0 + 5))), (18, .agg (if t then zr0_0.extract (0 + 0) (0 + 0 + 5) else zr0_1.extract (0 + 0) (0 + 0 + 5))), (19, .pointer (some ⟨br1_0, 0 + 0, none⟩))] (by simp [hvr2_0, hvr2_1, hvr2_2, hvr2_3, hvr2_4, hvr2_5, hvr2_6, hvr2_7, hvr2_8, hvr2_9]) (by kernel_rfl)
        clear hI hvr2_0 hvr2_1 hvr2_2 hvr2_3 hvr2_4 hvr2_5 hvr2_6 hvr2_7 hvr2_8 hvr2_9
        subst ha
        simp only [List.foldl_cons, List.foldl_nil, List.setIfInBounds_toArray, List.set_cons_zero, List.set_cons_succ]
        have Bxr0y0_2 := Lib.hid (hupd.blk (show Blk w2 br0_0 72 zr0_0 from Bxr0y0_1.out) (fun h => h))
        have Bxr0y1_2 := Lib.hid (hupd.blk (show Blk w2 br0_1 72 zr0_1 from Bxr0y1_1.out) (fun h => h))
        have Bxr0y2_2 := Lib.hid (hupd.blk (show Blk w2 br0_2 72 zr0_2 from Bxr0y2_1.out) (fun h => h))
        have Bxr0y3_2 := Lib.hid (hupd.blk (show Blk w2 br0_3 72 zr0_3 from Bxr0y3_1.out) (fun h => h))
        have Bxr1y0_2 := Lib.hid (hupd.blk (show Blk w2 br1_0 72 zr1_0 from Bxr1y0.out) (fun h => h))
        have Bxr1y1_2 := Lib.hid (hupd.blk (show Blk w2 br1_1 72 zr1_1 from Bxr1y1.out) (fun h => h))
        have HU2 := Lib.hid (HU1.out.trans hupd)
        clear hupd
        refine wpOps_storeQ 10 rfl rfl rfl 39 (.tmp 19) (.tmp 17) rfl br1_0 (0 + 0) 5 rfl (if t then zr0_1.extract (0 + 0) (0 + 0 + 5) else zr0_0.extract (0 + 0) (0 + 0 + 5)) rfl 72 zr1_0 Bxr1y0_2.out szE (Ch.pick t (hzr0_1.at 0 (0 + 0) rfl rfl) (hzr0_0.at 0 (0 + 0) rfl rfl)).size (by rw [hzr1_0.size]; exact Nat.le_of_ble_eq_true rfl) (Ch.pick t (hzr0_1.at 0 (0 + 0) rfl rfl) (hzr0_0.at 0 (0 + 0) rfl rfl)).one' ?_
        intro ws2_0 hs2_0 hus2_0
        have hc2_0 : Ch 5 RE [if t then x2 else x1, 0] _ := (hzr1_0.put 0 (0 + 0) rfl (Nat.le_of_ble_eq_true rfl) (Ch.pick t (hzr0_1.at 0 (0 + 0) rfl rfl) (hzr0_0.at 0 (0 + 0) rfl rfl)))
        generalize he2_0 : splice zr1_0 (0 + 0) ((if t then zr0_1.extract (0 + 0) (0 + 0 + 5) else zr0_0.extract (0 + 0) (0 + 0 + 5))).toList = as2_0 at hs2_0 hc2_0
        clear he2_0
        have Bxr0y0_s2_0 := Lib.hid (hus2_0.blk Bxr0y0_2.out (fun e => hner1_0_Bxr0y0.out e.symm))
        have Bxr0y1_s2_0 := Lib.hid (hus2_0.blk Bxr0y1_2.out (fun e => hner1_0_Bxr0y1.out e.symm))
        have Bxr0y2_s2_0 := Lib.hid (hus2_0.blk Bxr0y2_2.out (fun e => hner1_0_Bxr0y2.out e.symm))
        have Bxr0y3_s2_0 := Lib.hid (hus2_0.blk Bxr0y3_2.out (fun e => hner1_0_Bxr0y3.out e.symm))
        have Bxr1y1_s2_0 := Lib.hid (hus2_0.blk Bxr1y1_2.out (fun e => hner1_0_r1_1.out e.symm))
        have Bxr1y0_s2_0 := Lib.hid hs2_0
        have HU2_0 := Lib.hid (HU2.out.step hus2_0 (fun i hi h => absurd hi (Nat.not_lt.2 (h.symm ▸ hger1_0.out))))
        clear hs2_0 hus2_0
        refine wpOps_pureQ 11 rfl rfl 20 rfl (.pointer (some ⟨br1_1, 0 + 0, none⟩)) (run_fieldQ (g := br1_1) (off := 0) (k := 0) rfl rfl Tryd.underlying72 rfl (by rfl) szE _) ?_
        simp only [List.setIfInBounds_toArray, List.set_cons_zero, List.set_cons_succ]
        refine wpOps_storeQ 12 rfl rfl rfl 39 (.tmp 20) (.tmp 18) rfl br1_1 (0 + 0) 5 rfl (if t then zr0_0.extract (0 + 0) (0 + 0 + 5) else zr0_1.extract (0 + 0) (0 + 0 + 5)) rfl 72 zr1_1 Bxr1y1_s2_0.out szE (Ch.pick t (hzr0_0.at 0 (0 + 0) rfl rfl) (hzr0_1.at 0 (0 + 0) rfl rfl)).size (by rw [hzr1_1.size]; exact Nat.le_of_ble_eq_true rfl) (Ch.pick t (hzr0_0.at 0 (0 + 0) rfl rfl) (hzr0_1.at 0 (0 + 0) rfl rfl)).one' ?_
        intro ws2_2 hs2_2 hus2_2
        have hc2_2 : Ch 5 RE [if t then x1 else x2, 0] _ := (hzr1_1.put 0 (0 + 0) rfl (Nat.le_of_ble_eq_true rfl) (Ch.pick t (hzr0_0.at 0 (0 + 0) rfl rfl) (hzr0_1.at 0 (0 + 0) rfl rfl)))
        generalize he2_2 : splice zr1_1 (0 + 0) ((if t then zr0_0.extract (0 + 0) (0 + 0 + 5) else zr0_1.extract (0 + 0) (0 + 0 + 5))).toList = as2_2 at hs2_2 hc2_2
        clear he2_2
        have Bxr0y0_s2_2 := Lib.hid (hus2_2.blk Bxr0y0_s2_0.out (fun e => hner1_1_Bxr0y0.out e.symm))
        have Bxr0y1_s2_2 := Lib.hid (hus2_2.blk Bxr0y1_s2_0.out (fun e => hner1_1_Bxr0y1.out e.symm))
        have Bxr0y2_s2_2 := Lib.hid (hus2_2.blk Bxr0y2_s2_0.out (fun e => hner1_1_Bxr0y2.out e.symm))
        have Bxr0y3_s2_2 := Lib.hid (hus2_2.blk Bxr0y3_s2_0.out (fun e => hner1_1_Bxr0y3.out e.symm))
        have Bxr1y0_s2_2 := Lib.hid (hus2_2.blk Bxr1y0_s2_0.out (fun e => hner1_0_r1_1.out e))
        have Bxr1y1_s2_2 := Lib.hid hs2_2
        have HU2_2 := Lib.hid (HU2_0.out.step hus2_2 (fun i hi h => absurd hi (Nat.not_lt.2 (h.symm ▸ hger1_1.out))))
        clear hs2_2 hus2_2
        refine wpOps_nil ?_
        refine hK2 _ _ ?_
        clear hK2
        refine wp_seq_k fun K3 hK3 => ?_
        refine wp_region_qS 10 #[true, true, true, true, true, true, true, true, true, true, false, false, false] [10, 11, 12] ([.val (.bool t), .val (.pointer (some ⟨br0_0, 0 + 5, none⟩)), .val (.agg (zr0_0.extract (0 + 5) (0 + 5 + 5))), .val (.pointer (some ⟨br0_1, 0 + 5, none⟩)), .val (.agg (zr0_1.extract (0 + 5) (0 + 5 + 5))), .val (swapped t (zr0_0.extract (0 + 5) (0 + 5 + 5)) (zr0_1.extract (0 + 5) (0 + 5 + 5))), .val (swapped t (zr0_0.extract (0 + 5) (0 + 5 + 5)) (zr0_1.extract (0 + 5) (0 + 5 + 5))), .val (.agg (if t then zr0_1.extract (0 + 5) (0 + 5 + 5) else zr0_0.extract (0 + 5) (0 + 5 + 5))), .val (.agg (if t then zr0_0.extract (0 + 5) (0 + 5 + 5) else zr0_1.extract (0 + 5) (0 + 5 + 5))), .val (.pointer (some ⟨br1_0, 0 + 5, none⟩)), .val undef, .val undef, .val undef] : List SQ) (by kernel_rfl) (by kernel_rfl) (by kernel_rfl) ?_ ?_
        · intro i o listed an wn ho hls hst hun hdep hI hpre K' hK'
          have hi : i = 0 ∨ i = 1 ∨ i = 2 ∨ i = 3 ∨ i = 4 ∨ i = 5 ∨ i = 6 ∨ i = 7 ∨ i = 8 ∨ i = 9 ∨ False := slot_cases (l := [0, 1, 2, 3, 4, 5, 6, 7, 8, 9]) rfl ho hst
          rcases hi with rfl | rfl | rfl | rfl | rfl | rfl | rfl | rfl | rfl | rfl | hi
          · obtain rfl := Option.some.inj ho
            have hvp : an.eval (.tmp 0) = .bool t := hI.oldQ (by kernel_rfl) rfl
            exact hI.pureQ (by kernel_rfl) hls rfl rfl rfl (.bool t) (run_moveQ (.inl rfl) hvp wn) (.val (.bool t)) rfl rfl rfl hK'
          · obtain rfl := Option.some.inj ho
            have hvp : an.eval (.tmp 4) = ptrTo br0_0 := hI.oldQ (by kernel_rfl) rfl
            exact hI.pureQ (by kernel_rfl) hls rfl rfl rfl (.pointer (some ⟨br0_0, 0 + 5, none⟩)) (run_fieldQ (g := br0_0) (off := 0) (k := 5) rfl hvp Tryd.underlying72 rfl (by rfl) szE wn) (.val (.pointer (some ⟨br0_0, 0 + 5, none⟩))) rfl rfl rfl hK'
          · obtain rfl := Option.some.inj ho
            obtain ⟨vp, hvp, hsp⟩ := hI.haveQ 1 _ 23 (.val (.pointer (some ⟨br0_0, 0 + 5, none⟩))) rfl rfl rfl (hdep ⟨1, .data⟩ (by simp) rfl)
            obtain rfl := hsp
            exact hI.pureQ (by kernel_rfl) hls rfl rfl rfl (.agg (zr0_0.extract (0 + 5) (0 + 5 + 5))) (run_loadQ rfl (eval_of hvp) wn (hI.upd.blk (show Blk ws2_2 br0_0 72 zr0_0 from Bxr0y0_s2_2.out) (fun h => h)) Tryd.underlying39 rfl szE (by rw [hzr0_0.size]; exact Nat.le_of_ble_eq_true rfl)) (.val (.agg (zr0_0.extract (0 + 5) (0 + 5 + 5)))) rfl rfl rfl hK'
          · obtain rfl := Option.some.inj ho
            have hvp : an.eval (.tmp 5) = ptrTo br0_1 := hI.oldQ (by kernel_rfl) rfl
            exact hI.pureQ (by kernel_rfl) hls rfl rfl rfl (.pointer (some ⟨br0_1, 0 + 5, none⟩)) (run_fieldQ (g := br0_1) (off := 0) (k := 5) rfl hvp Tryd.underlying72 rfl (by rfl) szE wn) (.val (.pointer (some ⟨br0_1, 0 + 5, none⟩))) rfl rfl rfl hK'
          · obtain rfl := Option.some.inj ho
            obtain ⟨vp, hvp, hsp⟩ := hI.haveQ 3 _ 25 (.val (.pointer (some ⟨br0_1, 0 + 5, none⟩))) rfl rfl rfl (hdep ⟨3, .data⟩ (by simp) rfl)
            obtain rfl := hsp
            exact hI.pureQ (by kernel_rfl) hls rfl rfl rfl (.agg (zr0_1.extract (0 + 5) (0 + 5 + 5))) (run_loadQ rfl (eval_of hvp) wn (hI.upd.blk (show Blk ws2_2 br0_1 72 zr0_1 from Bxr0y1_s2_2.out) (fun h => h)) Tryd.underlying39 rfl szE (by rw [hzr0_1.size]; exact Nat.le_of_ble_eq_true rfl)) (.val (.agg (zr0_1.extract (0 + 5) (0 + 5 + 5)))) rfl rfl rfl hK'
          · obtain rfl := Option.some.inj ho
            obtain ⟨vp, hvp, hsp⟩ := hI.haveQ 0 _ 22 (.val (.bool t)) rfl rfl rfl (hdep ⟨0, .data⟩ (by simp) rfl)
            obtain rfl := hsp
            obtain ⟨vq, hvq, hsq⟩ := hI.haveQ 2 _ 24 (.val (.agg (zr0_0.extract (0 + 5) (0 + 5 + 5)))) rfl rfl rfl (hdep ⟨2, .data⟩ (by simp) rfl)
            obtain rfl := hsq
            obtain ⟨vr, hvr, hsr⟩ := hI.haveQ 4 _ 26 (.val (.agg (zr0_1.extract (0 + 5) (0 + 5 + 5)))) rfl rfl rfl (hdep ⟨4, .data⟩ (by simp) rfl)
            obtain rfl := hsr
            exact hI.callQ (by kernel_rfl) hls rfl rfl rfl 85 #[.tmp 22, .tmp 24, .tmp 26] _ rfl #[.bool t, .agg (zr0_0.extract (0 + 5) (0 + 5 + 5)), .agg (zr0_1.extract (0 + 5) (0 + 5 + 5))] (by simp [eval_of hvp, eval_of hvq, eval_of hvr]) (run_enter Tryd.func85 (by kernel_rfl) (by kernel_rfl)) (.val (swapped t (zr0_0.extract (0 + 5) (0 + 5 + 5)) (zr0_1.extract (0 + 5) (0 + 5 + 5)))) rfl rfl ((swapE t (hzr0_0.at 1 (0 + 5) rfl rfl) (hzr0_1.at 1 (0 + 5) rfl rfl)).mono fun _ _ h => ret_val h) hK'
          · obtain rfl := Option.some.inj ho
            obtain ⟨vp, hvp, hsp⟩ := hI.haveQ 5 _ 27 (.val (swapped t (zr0_0.extract (0 + 5) (0 + 5 + 5)) (zr0_1.extract (0 + 5) (0 + 5 + 5)))) rfl rfl rfl (hdep ⟨5, .data⟩ (by simp) rfl)
            obtain rfl := hsp
            exact hI.pureQ (by kernel_rfl) hls rfl rfl rfl (swapped t (zr0_0.extract (0 + 5) (0 + 5 + 5)) (zr0_1.extract (0 + 5) (0 + 5 + 5))) (run_moveQ (.inl rfl) (eval_of hvp) wn) (.val (swapped t (zr0_0.extract (0 + 5) (0 + 5 + 5)) (zr0_1.extract (0 + 5) (0 + 5 + 5)))) rfl rfl rfl hK'
          · obtain rfl := Option.some.inj ho
            obtain ⟨vp, hvp, hsp⟩ := hI.haveQ 6 _ 21 (.val (swapped t (zr0_0.extract (0 + 5) (0 + 5 + 5)) (zr0_1.extract (0 + 5) (0 + 5 + 5)))) rfl rfl rfl (hdep ⟨6, .data⟩ (by simp) rfl)
            obtain rfl := hsp
            exact hI.pureQ (by kernel_rfl) hls rfl rfl rfl (.agg (if t then zr0_1.extract (0 + 5) (0 + 5 + 5) else zr0_0.extract (0 + 5) (0 + 5 + 5))) (run_swap0 rfl (eval_of hvp) wn) (.val (.agg (if t then zr0_1.extract (0 + 5) (0 + 5 + 5) else zr0_0.extract (0 + 5) (0 + 5 + 5)))) rfl rfl rfl hK'
          · obtain rfl := Option.some.inj ho
            obtain ⟨vp, hvp, hsp⟩ := hI.haveQ 6 _ 21 (.val (swapped t (zr0_0.extract (0 + 5) (0 + 5 + 5)) (zr0_1.extract (0 + 5) (0 + 5 + 5)))) rfl rfl rfl (hdep ⟨6, .data⟩ (by simp) rfl)
            obtain rfl := hsp
            exact hI.pureQ (by kernel_rfl) hls rfl rfl rfl (.agg (if t then zr0_0.extract (0 + 5) (0 + 5 + 5) else zr0_1.extract (0 + 5) (0 + 5 + 5))) (run_swap1 rfl (eval_of hvp) wn) (.val (.agg (if t then zr0_0.extract (0 + 5) (0 + 5 + 5) else zr0_1.extract (0 + 5) (0 + 5 + 5)))) rfl rfl rfl hK'
          · obtain rfl := Option.some.inj ho
            have hvp : an.eval (.tmp 8) = ptrTo br1_0 := hI.oldQ (by kernel_rfl) rfl
            exact hI.pureQ (by kernel_rfl) hls rfl rfl rfl (.pointer (some ⟨br1_0, 0 + 5, none⟩)) (run_fieldQ (g := br1_0) (off := 0) (k := 5) rfl hvp Tryd.underlying72 rfl (by rfl) szE wn) (.val (.pointer (some ⟨br1_0, 0 + 5, none⟩))) rfl rfl rfl hK'
          · exact hi.elim
        · intro an w4 hI
          obtain ⟨vr3_0, hvr3_0, hsr3_0⟩ := hI.haveQ 0 _ 22 (.val (.bool t)) rfl rfl rfl rfl
          obtain rfl := hsr3_0
          obtain ⟨vr3_1, hvr3_1, hsr3_1⟩ := hI.haveQ 1 _ 23 (.val (.pointer (some ⟨br0_0, 0 + 5, none⟩))) rfl rfl rfl rfl
          obtain rfl := hsr3_1
          obtain ⟨vr3_2, hvr3_2, hsr3_2⟩ := hI.haveQ 2 _ 24 (.val (.agg (zr0_0.extract (0 + 5) (0 + 5 + 5)))) rfl rfl rfl rfl
          obtain rfl := hsr3_2
          obtain ⟨vr3_3, hvr3_3, hsr3_3⟩ := hI.haveQ 3 _ 25 (.val (.pointer (some ⟨br0_1, 0 + 5, none⟩))) rfl rfl rfl rfl
          obtain rfl := hsr3_3
          obtain ⟨vr3_4, hvr3_4, hsr3_4⟩ := hI.haveQ 4 _ 26 (.val (.agg (zr0_1.extract (0 + 5) (0 + 5 + 5)))) rfl rfl rfl rfl
          obtain rfl := hsr3_4
          obtain ⟨vr3_5, hvr3_5, hsr3_5⟩ := hI.haveQ 5 _ 27 (.val (swapped t (zr0_0.extract (0 + 5) (0 + 5 + 5)) (zr0_1.extract (0 + 5) (0 + 5 + 5)))) rfl rfl rfl rfl
          obtain rfl := hsr3_5
          obtain ⟨vr3_6, hvr3_6, hsr3_6⟩ := hI.haveQ 6 _ 21 (.val (swapped t (zr0_0.extract (0 + 5) (0 + 5 + 5)) (zr0_1.extract (0 + 5) (0 + 5 + 5)))) rfl rfl rfl rfl
          obtain rfl := hsr3_6
          obtain ⟨vr3_7, hvr3_7, hsr3_7⟩ := hI.haveQ 7 _ 28 (.val (.agg (if t then zr0_1.extract (0 + 5) (0 + 5 + 5) else zr0_0.extract (0 + 5) (0 + 5 + 5)))) rfl rfl rfl rfl
          obtain rfl := hsr3_7
          obtain ⟨vr3_8, hvr3_8, hsr3_8⟩ := hI.haveQ 8 _ 29 (.val (.agg (if t then zr0_0.extract (0 + 5) (0 + 5 + 5) else zr0_1.extract (0 + 5) (0 + 5 + 5)))) rfl rfl rfl rfl
          obtain rfl := hsr3_8
          obtain ⟨vr3_9, hvr3_9, hsr3_9⟩ := hI.haveQ 9 _ 30 (.val (.pointer (some ⟨br1_0, 0 + 5, none⟩))) rfl rfl rfl rfl
          obtain rfl := hsr3_9
          have hupd := hI.upd
          have ha := hI.act [(22, .bool t), (23, .pointer (some ⟨br0_0, 0 + 5, none⟩)), (24, .agg (zr0_0.extract (0 + 5) (0 + 5 + 5))), (25, .pointer (some ⟨br0_1, 0 + 5, none⟩)), (26, .agg (zr0_1.extract (0 + 5) (0 + 5 + 5))), (27, swapped t (zr0_0.extract (0 + 5) (0 + 5 + 5)) (zr0_1.extract (0 + 5) (0 + 5 + 5))), (21, swapped t (zr0_0.extract (0 + 5) (0 + 5 + 5)) (zr0_1.extract (0 + 5) (0 + 5 + 5))), (28, .agg (if t then zr0_1.extract (0 + 5) (0 + 5 + 5) else zr0_0.extract (0 + 5) (0 + 5 + 5))), (29, .agg (if t then zr0_0.extract (0 + 5) (0 + 5 + 5) else zr0_1.extract (0 + 5) (0 + 5 + 5))), (30, .pointer (some ⟨br1_0, 0 + 5, none⟩))] (by simp [hvr3_0, hvr3_1, hvr3_2, hvr3_3, hvr3_4, hvr3_5, hvr3_6, hvr3_7, hvr3_8, hvr3_9]) (by kernel_rfl)
          clear hI hvr3_0 hvr3_1 hvr3_2 hvr3_3 hvr3_4 hvr3_5 hvr3_6 hvr3_7 hvr3_8 hvr3_9
          subst ha
          simp only [List.foldl_cons, List.foldl_nil, List.setIfInBounds_toArray, List.set_cons_zero, List.set_cons_succ]
          have Bxr0y0_3 := Lib.hid (hupd.blk (show Blk ws2_2 br0_0 72 zr0_0 from Bxr0y0_s2_2.out) (fun h => h))
          have Bxr0y1_3 := Lib.hid (hupd.blk (show Blk ws2_2 br0_1 72 zr0_1 from Bxr0y1_s2_2.out) (fun h => h))
          have Bxr0y2_3 := Lib.hid (hupd.blk (show Blk ws2_2 br0_2 72 zr0_2 from Bxr0y2_s2_2.out) (fun h => h))
          have Bxr0y3_3 := Lib.hid (hupd.blk (show Blk ws2_2 br0_3 72 zr0_3 from Bxr0y3_s2_2.out) (fun h => h))
          have Bxr1y0_3 := Lib.hid (hupd.blk (show Blk ws2_2 br1_0 72 as2_0 from Bxr1y0_s2_2.out) (fun h => h))
          have Bxr1y1_3 := Lib.hid (hupd.blk (show Blk ws2_2 br1_1 72 as2_2 from Bxr1y1_s2_2.out) (fun h => h))
          have HU3 := Lib.hid (HU2_2.out.trans hupd)
          clear hupd
          refine wpOps_storeQ 10 rfl rfl rfl 39 (.tmp 30) (.tmp 28) rfl br1_0 (0 + 5) 5 rfl (if t then zr0_1.extract (0 + 5) (0 + 5 + 5) else zr0_0.extract (0 + 5) (0 + 5 + 5)) rfl 72 as2_0 Bxr1y0_3.out szE (Ch.pick t (hzr0_1.at 1 (0 + 5) rfl rfl) (hzr0_0.at 1 (0 + 5) rfl rfl)).size (by rw [hc2_0.size]; exact Nat.le_of_ble_eq_true rfl) (Ch.pick t (hzr0_1.at 1 (0 + 5) rfl rfl) (hzr0_0.at 1 (0 + 5) rfl rfl)).one' ?_
          intro ws3_0 hs3_0 hus3_0
          have hc3_0 : Ch 5 RE [if t then x2 else x1, if t then z2 else z1] _ := (hc2_0.put 1 (0 + 5) rfl (Nat.le_of_ble_eq_true rfl) (Ch.pick t (hzr0_1.at 1 (0 + 5) rfl rfl) (hzr0_0.at 1 (0 + 5) rfl rfl)))
          generalize he3_0 : splice as2_0 (0 + 5) ((if t then zr0_1.extract (0 + 5) (0 + 5 + 5) else zr0_0.extract (0 + 5) (0 + 5 + 5))).toList = as3_0 at hs3_0 hc3_0
          clear he3_0
          have Bxr0y0_s3_0 := Lib.hid (hus3_0.blk Bxr0y0_3.out (fun e => hner1_0_Bxr0y0.out e.symm))
          have Bxr0y1_s3_0 := Lib.hid (hus3_0.blk Bxr0y1_3.out (fun e => hner1_0_Bxr0y1.out e.symm))
          have Bxr0y2_s3_0 := Lib.hid (hus3_0.blk Bxr0y2_3.out (fun e => hner1_0_Bxr0y2.out e.symm))
          have Bxr0y3_s3_0 := Lib.hid (hus3_0.blk Bxr0y3_3.out (fun e => hner1_0_Bxr0y3.out e.symm))
          have Bxr1y1_s3_0 := Lib.hid (hus3_0.blk Bxr1y1_3.out (fun e => hner1_0_r1_1.out e.symm))
          have Bxr1y0_s3_0 := Lib.hid hs3_0
          have HU3_0 := Lib.hid (HU3.out.step hus3_0 (fun i hi h => absurd hi (Nat.not_lt.2 (h.symm ▸ hger1_0.out))))
          clear hs3_0 hus3_0
          refine wpOps_pureQ 11 rfl rfl 31 rfl (.pointer (some ⟨br1_1, 0 + 5, none⟩)) (run_fieldQ (g := br1_1) (off := 0) (k := 5) rfl rfl Tryd.underlying72 rfl (by rfl) szE _) ?_
          simp only [List.setIfInBounds_toArray, List.set_cons_zero, List.set_cons_succ]
          refine wpOps_storeQ 12 rfl rfl rfl 39 (.tmp 31) (.tmp 29) rfl br1_1 (0 + 5) 5 rfl (if t then zr0_0.extract (0 + 5) (0 + 5 + 5) else zr0_1.extract (0 + 5) (0 + 5 + 5)) rfl 72 as2_2 Bxr1y1_s3_0.out szE (Ch.pick t (hzr0_0.at 1 (0 + 5) rfl rfl) (hzr0_1.at 1 (0 + 5) rfl rfl)).size (by rw [hc2_2.size]; exact Nat.le_of_ble_eq_true rfl) (Ch.pick t (hzr0_0.at 1 (0 + 5) rfl rfl) (hzr0_1.at 1 (0 + 5) rfl rfl)).one' ?_
          intro ws3_2 hs3_2 hus3_2
          have hc3_2 : Ch 5 RE [if t then x1 else x2, if t then z1 else z2] _ := (hc2_2.put 1 (0 + 5) rfl (Nat.le_of_ble_eq_true rfl) (Ch.pick t (hzr0_0.at 1 (0 + 5) rfl rfl) (hzr0_1.at 1 (0 + 5) rfl rfl)))
          generalize he3_2 : splice as2_2 (0 + 5) ((if t then zr0_0.extract (0 + 5) (0 + 5 + 5) else zr0_1.extract (0 + 5) (0 + 5 + 5))).toList = as3_2 at hs3_2 hc3_2
          clear he3_2
          have Bxr0y0_s3_2 := Lib.hid (hus3_2.blk Bxr0y0_s3_0.out (fun e => hner1_1_Bxr0y0.out e.symm))
          have Bxr0y1_s3_2 := Lib.hid (hus3_2.blk Bxr0y1_s3_0.out (fun e => hner1_1_Bxr0y1.out e.symm))
          have Bxr0y2_s3_2 := Lib.hid (hus3_2.blk Bxr0y2_s3_0.out (fun e => hner1_1_Bxr0y2.out e.symm))
          have Bxr0y3_s3_2 := Lib.hid (hus3_2.blk Bxr0y3_s3_0.out (fun e => hner1_1_Bxr0y3.out e.symm))
          have Bxr1y0_s3_2 := Lib.hid (hus3_2.blk Bxr1y0_s3_0.out (fun e => hner1_0_r1_1.out e))
          have Bxr1y1_s3_2 := Lib.hid hs3_2
          have HU3_2 := Lib.hid (HU3_0.out.step hus3_2 (fun i hi h => absurd hi (Nat.not_lt.2 (h.symm ▸ hger1_1.out))))
          clear hs3_2 hus3_2
          refine wpOps_nil ?_
          refine hK3 _ _ ?_
          clear hK3
          refine wp_seq_k fun K4 hK4 => ?_
          refine wp_region_two _ _ _ _ rfl (by kernel_rfl) 72 72 8 9 32 33 6 7 rfl rfl rfl rfl rfl rfl rfl rfl rfl rfl rfl rfl (by kernel_rfl) (by kernel_rfl) (by kernel_rfl) (by kernel_rfl) (by kernel_rfl) (by kernel_rfl) (by kernel_rfl) br1_0 br1_1 br0_2 br0_3 as3_0 as3_2 zr0_2 zr0_3 _ _ _ _ Bxr1y0_s3_2.out Bxr1y1_s3_2.out Bxr0y2_s3_2.out Bxr0y3_s3_2.out hner1_1_Bxr0y2.out (Ne.symm hner0_2_r0_3.out) rfl rfl rfl rfl (Nat.le_of_ble_eq_true rfl) (Nat.le_of_ble_eq_true rfl) rfl Tryd.underlying72 rfl (by rw [hc3_0.size]; exact szRatio) (hzr0_2.size.trans hc3_0.size.symm) hc3_0.one' Tryd.underlying72 rfl (by rw [hc3_2.size]; exact szRatio) (hzr0_3.size.trans hc3_2.size.symm) hc3_2.one' ?_
          intro wt4 ht4 kt4 ut4
          have HU4t := Lib.hid (HU3_2.out.drew.step ut4 (fun i hi h => h.elim (fun h => absurd hi (Nat.not_lt.2 (h.symm ▸ hger0_2.out))) (fun h => absurd hi (Nat.not_lt.2 (h.symm ▸ hger0_3.out)))))
          simp only [List.setIfInBounds_toArray, List.set_cons_zero, List.set_cons_succ]
          have Bq4 := Lib.hid ht4
          have Bk4 := Lib.hid kt4
          clear ht4 kt4 ut4
          refine hK4 _ _ ?_
          clear hK4
          refine wp_ret ?_
          try dsimp only [Exit.then]
          try dsimp only [Exit.inBlock]
          exact bodyPost_ret (v := .tuple #[.agg as3_0, .agg as3_2]) (results_cell_row2 (fn := Tryd.f50) (p := 6) (q := 7) (ty := 72) (tq := 72) rfl _ _ br0_2 br0_3 _ _ rfl rfl Bq4.out Bk4.out Tryd.underlying72 rfl (by rw [hc3_0.size]; exact szRatio) Tryd.underlying72 rfl (by rw [hc3_2.size]; exact szRatio)) rfl ⟨_, _, rfl, hc3_0, hc3_2, HU4t.out⟩
end Go.Proofs.YtdpafemcpbhlfaaDoor
