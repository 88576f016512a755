/-
  Walks of the reference of layer 5: double, add.
-/
import Derived.Test.YtdpafemcpbhlfaaDoorSh
import Derived.Test.YtdpafemcpbhlfaaDoorLate
namespace Go.Proofs.YtdpafemcpbhlfaaDoor
set_option maxRecDepth 100000
open Go.RowKit

set_option maxHeartbeats 4000000 in
theorem rdoubleL {x z : Fp} {a : Array Value} (w : World) (ha : Ch 16 RN [x, z] a) :
    Calls Tryd.prog 56 #[.agg a] w (RetC 16 RN [((x * x) - (z * z)) * ((x * x) - (z * z)), ((fv 4) * (x * z)) * (((x * x) + (z * z)) + ((fv 486662) * (x * z)))] w) := by
  have HU := Lib.hid (Upd.refl (fun _ => False) w)
  go_enter Tryd.func56, Tryd.ntmps56
  refine wp_seq_k fun K0 hK0 => ?_
  refine wp_region_qS 2 #[true, true] [] ([.blk ptrTo 80 (Ch 16 RN [x, z]), .blk ptrTo 80 (Ch 16 RN [0, 0])] : List SQ) (by kernel_rfl) (by kernel_rfl) (by kernel_rfl) ?_ ?_
  · intro i o listed an wn ho hls hst hun hdep hI hpre K' hK'
    have hi : i = 0 ∨ i = 1 ∨ False := slot_cases (l := [0, 1]) rfl ho hst
    rcases hi with rfl | rfl | hi
    · obtain rfl := Option.some.inj ho
      have hvp : an.eval (.tmp 0) = .agg a := hI.oldQ (by kernel_rfl) rfl
      exact hI.newQ (by kernel_rfl) hls (Nat.le_refl _) (newsQ_spec (l := [0, 1]) (by kernel_rfl) ⟨⟨_, _, rfl⟩, ⟨_, _, rfl⟩, trivial⟩) rfl rfl rfl 80 a _ (run_boxQ rfl hvp wn) rfl ha hK'
    · obtain rfl := Option.some.inj ho
      exact hI.newQ (by kernel_rfl) hls (Nat.le_refl _) (newsQ_spec (l := [0, 1]) (by kernel_rfl) ⟨⟨_, _, rfl⟩, ⟨_, _, rfl⟩, trivial⟩) rfl rfl rfl 80 zR5 _ (run_allocQ rfl zR5_run wn) rfl zR5_ch hK'
    · exact hi.elim
  · intro an w1 hI
    obtain ⟨vr0_0, hvr0_0, br0_0, zr0_0, rfl, hnr0_0, hbr0_0, hzr0_0⟩ := hI.haveQ 0 _ 1 (.blk ptrTo 80 (Ch 16 RN [x, z])) rfl rfl rfl rfl
    obtain ⟨vr0_1, hvr0_1, br0_1, zr0_1, rfl, hnr0_1, hbr0_1, hzr0_1⟩ := hI.haveQ 1 _ 2 (.blk ptrTo 80 (Ch 16 RN [0, 0])) rfl rfl rfl rfl
    have hupd := hI.upd
    have hner0_0_r0_1 := Lib.hid (show br0_0 ≠ br0_1 from fun e => hI.apart 0 1 _ _ 1 2 (by omega) rfl rfl rfl rfl rfl rfl rfl rfl (by rw [hvr0_0, hvr0_1, e]))
    have ha := hI.act [(1, ptrTo br0_0), (2, ptrTo br0_1)] (by simp [hvr0_0, hvr0_1]) (by kernel_rfl)
    clear hI hvr0_0 hvr0_1
    subst ha
    simp only [List.foldl_cons, List.foldl_nil, List.setIfInBounds_toArray, List.set_cons_zero, List.set_cons_succ]
    have hger0_0 := Lib.hid (Nat.le_trans HU.out.size hnr0_0)
    have hger0_1 := Lib.hid (Nat.le_trans HU.out.size hnr0_1)
    have Bxr0y0 := Lib.hid hbr0_0
    have Bxr0y1 := Lib.hid hbr0_1
    have HU0 := Lib.hid (HU.out.trans hupd)
    clear hupd
    refine wpOps_nil ?_
    refine hK0 _ _ ?_
    clear hK0
    refine wp_seq_k fun K1 hK1 => ?_
    refine wp_region_q #[true, true, true, true, true, true, true, true, true, true, true, true, false, false] ([.val (.pointer (some ⟨br0_0, 0 + 0, none⟩)), .val (.agg (zr0_0.extract (0 + 0) (0 + 0 + 16))), .val (.pointer (some ⟨br0_0, 0 + 0, none⟩)), .val (.agg (zr0_0.extract (0 + 0) (0 + 0 + 16))), .like (IsC 16 RN [x * x]), .val (.pointer (some ⟨br0_0, 0 + 16, none⟩)), .val (.agg (zr0_0.extract (0 + 16) (0 + 16 + 16))), .val (.pointer (some ⟨br0_0, 0 + 16, none⟩)), .val (.agg (zr0_0.extract (0 + 16) (0 + 16 + 16))), .like (IsC 16 RN [z * z]), .blk ptrTo 45 (Ch 16 RN [0]), .blk ptrTo 45 (Ch 16 RN [0]), .val undef, .val undef] : List SQ) (by kernel_rfl) (by kernel_rfl) (by kernel_rfl) ?_ ?_
    · intro i o listed an wn ho hls hst hun hdep hI K' hK'
      have hi : i = 0 ∨ i = 1 ∨ i = 2 ∨ i = 3 ∨ i = 4 ∨ i = 5 ∨ i = 6 ∨ i = 7 ∨ i = 8 ∨ i = 9 ∨ i = 10 ∨ i = 11 ∨ False := slot_cases (l := [0, 1, 2, 3, 4, 5, 6, 7, 8, 9, 10, 11]) rfl ho hst
      rcases hi with rfl | rfl | rfl | rfl | rfl | rfl | rfl | rfl | rfl | rfl | rfl | rfl | hi
      · obtain rfl := Option.some.inj ho
        have hvp : an.eval (.tmp 1) = ptrTo br0_0 := hI.oldQ (by kernel_rfl) rfl
        exact hI.pureQ (by kernel_rfl) hls rfl rfl rfl (.pointer (some ⟨br0_0, 0 + 0, none⟩)) (run_fieldQ (g := br0_0) (off := 0) (k := 0) rfl hvp Tryd.underlying80 rfl (by rfl) szN wn) (.val (.pointer (some ⟨br0_0, 0 + 0, none⟩))) rfl rfl rfl hK'
      · obtain rfl := Option.some.inj ho
        obtain ⟨vp, hvp, hsp⟩ := hI.haveQ 0 _ 8 (.val (.pointer (some ⟨br0_0, 0 + 0, none⟩))) rfl rfl rfl (hdep ⟨0, .data⟩ (by simp) rfl)
        obtain rfl := hsp
        exact hI.pureQ (by kernel_rfl) hls rfl rfl rfl (.agg (zr0_0.extract (0 + 0) (0 + 0 + 16))) (run_loadQ rfl (eval_of hvp) wn (hI.upd.blk (show Blk w1.drew br0_0 80 zr0_0 from Bxr0y0.out) (fun h => h)) Tryd.underlying45 rfl szN (by rw [hzr0_0.size]; exact Nat.le_of_ble_eq_true rfl)) (.val (.agg (zr0_0.extract (0 + 0) (0 + 0 + 16)))) rfl rfl rfl hK'
      · obtain rfl := Option.some.inj ho
        have hvp : an.eval (.tmp 1) = ptrTo br0_0 := hI.oldQ (by kernel_rfl) rfl
        exact hI.pureQ (by kernel_rfl) hls rfl rfl rfl (.pointer (some ⟨br0_0, 0 + 0, none⟩)) (run_fieldQ (g := br0_0) (off := 0) (k := 0) rfl hvp Tryd.underlying80 rfl (by rfl) szN wn) (.val (.pointer (some ⟨br0_0, 0 + 0, none⟩))) rfl rfl rfl hK'
      · obtain rfl := Option.some.inj ho
        obtain ⟨vp, hvp, hsp⟩ := hI.haveQ 2 _ 10 (.val (.pointer (some ⟨br0_0, 0 + 0, none⟩))) rfl rfl rfl (hdep ⟨2, .data⟩ (by simp) rfl)
        obtain rfl := hsp
        exact hI.pureQ (by kernel_rfl) hls rfl rfl rfl (.agg (zr0_0.extract (0 + 0) (0 + 0 + 16))) (run_loadQ rfl (eval_of hvp) wn (hI.upd.blk (show Blk w1.drew br0_0 80 zr0_0 from Bxr0y0.out) (fun h => h)) Tryd.underlying45 rfl szN (by rw [hzr0_0.size]; exact Nat.le_of_ble_eq_true rfl)) (.val (.agg (zr0_0.extract (0 + 0) (0 + 0 + 16)))) rfl rfl rfl hK'
      · obtain rfl := Option.some.inj ho
        obtain ⟨vp, hvp, hsp⟩ := hI.haveQ 1 _ 9 (.val (.agg (zr0_0.extract (0 + 0) (0 + 0 + 16)))) rfl rfl rfl (hdep ⟨1, .data⟩ (by simp) rfl)
        obtain rfl := hsp
        obtain ⟨vq, hvq, hsq⟩ := hI.haveQ 3 _ 11 (.val (.agg (zr0_0.extract (0 + 0) (0 + 0 + 16)))) rfl rfl rfl (hdep ⟨3, .data⟩ (by simp) rfl)
        obtain rfl := hsq
        exact hI.callQ (by kernel_rfl) hls rfl rfl rfl 58 #[.tmp 9, .tmp 11] _ rfl #[.agg (zr0_0.extract (0 + 0) (0 + 0 + 16)), .agg (zr0_0.extract (0 + 0) (0 + 0 + 16))] (by simp [eval_of hvp, eval_of hvq]) (run_enter Tryd.func58 (by kernel_rfl) (by kernel_rfl)) (.like (IsC 16 RN [x * x])) rfl rfl ((rMulE (hzr0_0.at 0 (0 + 0) rfl rfl) (hzr0_0.at 0 (0 + 0) rfl rfl)).mono fun _ _ h => h.sq) hK'
      · obtain rfl := Option.some.inj ho
        have hvp : an.eval (.tmp 1) = ptrTo br0_0 := hI.oldQ (by kernel_rfl) rfl
        exact hI.pureQ (by kernel_rfl) hls rfl rfl rfl (.pointer (some ⟨br0_0, 0 + 16, none⟩)) (run_fieldQ (g := br0_0) (off := 0) (k := 16) rfl hvp Tryd.underlying80 rfl (by rfl) szN wn) (.val (.pointer (some ⟨br0_0, 0 + 16, none⟩))) rfl rfl rfl hK'
      · obtain rfl := Option.some.inj ho
        obtain ⟨vp, hvp, hsp⟩ := hI.haveQ 5 _ 13 (.val (.pointer (some ⟨br0_0, 0 + 16, none⟩))) rfl rfl rfl (hdep ⟨5, .data⟩ (by simp) rfl)
        obtain rfl := hsp
        exact hI.pureQ (by kernel_rfl) hls rfl rfl rfl (.agg (zr0_0.extract (0 + 16) (0 + 16 + 16))) (run_loadQ rfl (eval_of hvp) wn (hI.upd.blk (show Blk w1.drew br0_0 80 zr0_0 from Bxr0y0.out) (fun h => h)) Tryd.underlying45 rfl szN (by rw [hzr0_0.size]; exact Nat.le_of_ble_eq_true rfl)) (.val (.agg (zr0_0.extract (0 + 16) (0 + 16 + 16)))) rfl rfl rfl hK'
      · obtain rfl := Option.some.inj ho
        have hvp : an.eval (.tmp 1) = ptrTo br0_0 := hI.oldQ (by kernel_rfl) rfl
        exact hI.pureQ (by kernel_rfl) hls rfl rfl rfl (.pointer (some ⟨br0_0, 0 + 16, none⟩)) (run_fieldQ (g := br0_0) (off := 0) (k := 16) rfl hvp Tryd.underlying80 rfl (by rfl) szN wn) (.val (.pointer (some ⟨br0_0, 0 + 16, none⟩))) rfl rfl rfl hK'
      · obtain rfl := Option.some.inj ho
        obtain ⟨vp, hvp, hsp⟩ := hI.haveQ 7 _ 15 (.val (.pointer (some ⟨br0_0, 0 + 16, none⟩))) rfl rfl rfl (hdep ⟨7, .data⟩ (by simp) rfl)
        obtain rfl := hsp
        exact hI.pureQ (by kernel_rfl) hls rfl rfl rfl (.agg (zr0_0.extract (0 + 16) (0 + 16 + 16))) (run_loadQ rfl (eval_of hvp) wn (hI.upd.blk (show Blk w1.drew br0_0 80 zr0_0 from Bxr0y0.out) (fun h => h)) Tryd.underlying45 rfl szN (by rw [hzr0_0.size]; exact Nat.le_of_ble_eq_true rfl)) (.val (.agg (zr0_0.extract (0 + 16) (0 + 16 + 16)))) rfl rfl rfl hK'
      · obtain rfl := Option.some.inj ho
        obtain ⟨vp, hvp, hsp⟩ := hI.haveQ 6 _ 14 (.val (.agg (zr0_0.extract (0 + 16) (0 + 16 + 16)))) rfl rfl rfl (hdep ⟨6, .data⟩ (by simp) rfl)
        obtain rfl := hsp
        obtain ⟨vq, hvq, hsq⟩ := hI.haveQ 8 _ 16 (.val (.agg (zr0_0.extract (0 + 16) (0 + 16 + 16)))) rfl rfl rfl (hdep ⟨8, .data⟩ (by simp) rfl)
        obtain rfl := hsq
        exact hI.callQ (by kernel_rfl) hls rfl rfl rfl 58 #[.tmp 14, .tmp 16] _ rfl #[.agg (zr0_0.extract (0 + 16) (0 + 16 + 16)), .agg (zr0_0.extract (0 + 16) (0 + 16 + 16))] (by simp [eval_of hvp, eval_of hvq]) (run_enter Tryd.func58 (by kernel_rfl) (by kernel_rfl)) (.like (IsC 16 RN [z * z])) rfl rfl ((rMulE (hzr0_0.at 1 (0 + 16) rfl rfl) (hzr0_0.at 1 (0 + 16) rfl rfl)).mono fun _ _ h => h.sq) hK'
      · obtain rfl := Option.some.inj ho
        exact hI.newQ (by kernel_rfl) hls (Nat.le_refl _) (newsQ_spec (l := [10, 11]) (by kernel_rfl) ⟨⟨_, _, rfl⟩, ⟨_, _, rfl⟩, trivial⟩) rfl rfl rfl 45 zeroN _ (run_allocQ rfl zN_run wn) rfl zN_ch hK'
      · obtain rfl := Option.some.inj ho
        exact hI.newQ (by kernel_rfl) hls (Nat.le_refl _) (newsQ_spec (l := [10, 11]) (by kernel_rfl) ⟨⟨_, _, rfl⟩, ⟨_, _, rfl⟩, trivial⟩) rfl rfl rfl 45 zeroN _ (run_allocQ rfl zN_run wn) rfl zN_ch hK'
      · exact hi.elim
    · intro fuel an w2 hf hI
      obtain ⟨vr1_0, hvr1_0, hsr1_0⟩ := hI.haveQ 0 _ 8 (.val (.pointer (some ⟨br0_0, 0 + 0, none⟩))) rfl rfl rfl rfl
      obtain rfl := hsr1_0
      obtain ⟨vr1_1, hvr1_1, hsr1_1⟩ := hI.haveQ 1 _ 9 (.val (.agg (zr0_0.extract (0 + 0) (0 + 0 + 16)))) rfl rfl rfl rfl
      obtain rfl := hsr1_1
      obtain ⟨vr1_2, hvr1_2, hsr1_2⟩ := hI.haveQ 2 _ 10 (.val (.pointer (some ⟨br0_0, 0 + 0, none⟩))) rfl rfl rfl rfl
      obtain rfl := hsr1_2
      obtain ⟨vr1_3, hvr1_3, hsr1_3⟩ := hI.haveQ 3 _ 11 (.val (.agg (zr0_0.extract (0 + 0) (0 + 0 + 16)))) rfl rfl rfl rfl
      obtain rfl := hsr1_3
      obtain ⟨vr1_4, hvr1_4, ar1_4, rfl, hCr1_4⟩ := hI.haveQ 4 _ 12 (.like (IsC 16 RN [x * x])) rfl rfl rfl rfl
      obtain ⟨vr1_5, hvr1_5, hsr1_5⟩ := hI.haveQ 5 _ 13 (.val (.pointer (some ⟨br0_0, 0 + 16, none⟩))) rfl rfl rfl rfl
      obtain rfl := hsr1_5
      obtain ⟨vr1_6, hvr1_6, hsr1_6⟩ := hI.haveQ 6 _ 14 (.val (.agg (zr0_0.extract (0 + 16) (0 + 16 + 16)))) rfl rfl rfl rfl
      obtain rfl := hsr1_6
      obtain ⟨vr1_7, hvr1_7, hsr1_7⟩ := hI.haveQ 7 _ 15 (.val (.pointer (some ⟨br0_0, 0 + 16, none⟩))) rfl rfl rfl rfl
      obtain rfl := hsr1_7
      obtain ⟨vr1_8, hvr1_8, hsr1_8⟩ := hI.haveQ 8 _ 16 (.val (.agg (zr0_0.extract (0 + 16) (0 + 16 + 16)))) rfl rfl rfl rfl
      obtain rfl := hsr1_8
      obtain ⟨vr1_9, hvr1_9, ar1_9, rfl, hCr1_9⟩ := hI.haveQ 9 _ 17 (.like (IsC 16 RN [z * z])) rfl rfl rfl rfl
      obtain ⟨vr1_10, hvr1_10, br1_10, zr1_10, rfl, hnr1_10, hbr1_10, hzr1_10⟩ := hI.haveQ 10 _ 3 (.blk ptrTo 45 (Ch 16 RN [0])) rfl rfl rfl rfl
      obtain ⟨vr1_11, hvr1_11, br1_11, zr1_11, rfl, hnr1_11, hbr1_11, hzr1_11⟩ := hI.haveQ 11 _ 4 (.blk ptrTo 45 (Ch 16 RN [0])) rfl rfl rfl rfl
      have hupd := hI.upd
      have hner1_10_r1_11 := Lib.hid (show br1_10 ≠ br1_11 from fun e => hI.apart 10 11 _ _ 3 4 (by omega) rfl rfl rfl rfl rfl rfl rfl rfl (by rw [hvr1_10, hvr1_11, e]))
      have ha := hI.act [(8, .pointer (some ⟨br0_0, 0 + 0, none⟩)), (9, .agg (zr0_0.extract (0 + 0) (0 + 0 + 16))), (10, .pointer (some ⟨br0_0, 0 + 0, none⟩)), (11, .agg (zr0_0.extract (0 + 0) (0 + 0 + 16))), (12, .agg ar1_4), (13, .pointer (some ⟨br0_0, 0 + 16, none⟩)), (14, .agg (zr0_0.extract (0 + 16) (0 + 16 + 16))), (15, .pointer (some ⟨br0_0, 0 + 16, none⟩)), (16, .agg (zr0_0.extract (0 + 16) (0 + 16 + 16))), (17, .agg ar1_9), (3, ptrTo br1_10), (4, ptrTo br1_11)] (by simp [hvr1_0, hvr1_1, hvr1_2, hvr1_3, hvr1_4, hvr1_5, hvr1_6, hvr1_7, hvr1_8, hvr1_9, hvr1_10, hvr1_11]) (by kernel_rfl)
      clear hI hvr1_0 hvr1_1 hvr1_2 hvr1_3 hvr1_4 hvr1_5 hvr1_6 hvr1_7 hvr1_8 hvr1_9 hvr1_10 hvr1_11
      subst ha
      simp only [List.foldl_cons, List.foldl_nil, List.setIfInBounds_toArray, List.set_cons_zero, List.set_cons_succ]
      have hner1_10_Bxr0y0 := Lib.hid (show br1_10 ≠ br0_0 from Nat.ne_of_gt (Nat.lt_of_lt_of_le Bxr0y0.out.lt hnr1_10))
      have hner1_10_Bxr0y1 := Lib.hid (show br1_10 ≠ br0_1 from Nat.ne_of_gt (Nat.lt_of_lt_of_le Bxr0y1.out.lt hnr1_10))
      have hger1_10 := Lib.hid (Nat.le_trans HU0.out.size hnr1_10)
      have hner1_11_Bxr0y0 := Lib.hid (show br1_11 ≠ br0_0 from Nat.ne_of_gt (Nat.lt_of_lt_of_le Bxr0y0.out.lt hnr1_11))
      have hner1_11_Bxr0y1 := Lib.hid (show br1_11 ≠ br0_1 from Nat.ne_of_gt (Nat.lt_of_lt_of_le Bxr0y1.out.lt hnr1_11))
      have hger1_11 := Lib.hid (Nat.le_trans HU0.out.size hnr1_11)
      have Bxr0y0_1 := Lib.hid (hupd.blk (show Blk w1.drew br0_0 80 zr0_0 from Bxr0y0.out) (fun h => h))
      have Bxr0y1_1 := Lib.hid (hupd.blk (show Blk w1.drew br0_1 80 zr0_1 from Bxr0y1.out) (fun h => h))
      have Bxr1y10 := Lib.hid hbr1_10
      have Bxr1y11 := Lib.hid hbr1_11
      have HU1 := Lib.hid (HU0.out.drew.trans hupd)
      clear hupd
      have hf0 : left #[true, true, true, true, true, true, true, true, true, true, true, true, false, false] 14 = 2 := by kernel_rfl
      have hf1 : left #[true, true, true, true, true, true, true, true, true, true, true, true, false, false] 14 ≤ fuel := hf
      obtain ⟨fu, rfl⟩ : ∃ fu, fuel = fu + 2 := ⟨fuel - 2, by omega⟩
      clear hf hf0 hf1
      refine wpAny_storeQ 12 rfl (by kernel_rfl) rfl rfl 45 (.tmp 3) (.tmp 12) rfl br1_10 0 16 rfl ar1_4 rfl 45 zr1_10 Bxr1y10.out szN hCr1_4.size (by rw [hzr1_10.size]; exact Nat.le_of_ble_eq_true rfl) hCr1_4.one' ?_
      intro ws1_0 hs1_0 hus1_0
      rw [splice_all _ _ 16 hzr1_10.size hCr1_4.size] at hs1_0
      have Bxr0y0_s1_0 := Lib.hid (hus1_0.blk Bxr0y0_1.out (fun e => hner1_10_Bxr0y0.out e.symm))
      have Bxr0y1_s1_0 := Lib.hid (hus1_0.blk Bxr0y1_1.out (fun e => hner1_10_Bxr0y1.out e.symm))
      have Bxr1y11_s1_0 := Lib.hid (hus1_0.blk Bxr1y11.out (fun e => hner1_10_r1_11.out e.symm))
      have Bxr1y10_s1_0 := Lib.hid hs1_0
      have HU1_0 := Lib.hid (HU1.out.step hus1_0 (fun i hi h => absurd hi (Nat.not_lt.2 (h.symm ▸ hger1_10.out))))
      clear hs1_0 hus1_0
      refine wpAny_storeQ 13 rfl (by kernel_rfl) rfl rfl 45 (.tmp 4) (.tmp 17) rfl br1_11 0 16 rfl ar1_9 rfl 45 zr1_11 Bxr1y11_s1_0.out szN hCr1_9.size (by rw [hzr1_11.size]; exact Nat.le_of_ble_eq_true rfl) hCr1_9.one' ?_
      intro ws1_1 hs1_1 hus1_1
      rw [splice_all _ _ 16 hzr1_11.size hCr1_9.size] at hs1_1
      have Bxr0y0_s1_1 := Lib.hid (hus1_1.blk Bxr0y0_s1_0.out (fun e => hner1_11_Bxr0y0.out e.symm))
      have Bxr0y1_s1_1 := Lib.hid (hus1_1.blk Bxr0y1_s1_0.out (fun e => hner1_11_Bxr0y1.out e.symm))
      have Bxr1y10_s1_1 := Lib.hid (hus1_1.blk Bxr1y10_s1_0.out (fun e => hner1_10_r1_11.out e))
      have Bxr1y11_s1_1 := Lib.hid hs1_1
      have HU1_1 := Lib.hid (HU1_0.out.step hus1_1 (fun i hi h => absurd hi (Nat.not_lt.2 (h.symm ▸ hger1_11.out))))
      clear hs1_1 hus1_1
      refine wpAny_done (by kernel_rfl) ?_ _
      refine hK1 _ _ ?_
      clear hK1
      refine wp_seq_k fun K2 hK2 => ?_
      refine wp_region_qS 6 #[true, true, true, true, true, true, false] [6] ([.val (.pointer (some ⟨br0_0, 0 + 0, none⟩)), .val (.agg (zr0_0.extract (0 + 0) (0 + 0 + 16))), .val (.pointer (some ⟨br0_0, 0 + 16, none⟩)), .val (.agg (zr0_0.extract (0 + 16) (0 + 16 + 16))), .like (IsC 16 RN [x * z]), .blk ptrTo 45 (Ch 16 RN [0]), .val undef] : List SQ) (by kernel_rfl) (by kernel_rfl) (by kernel_rfl) ?_ ?_
      · intro i o listed an wn ho hls hst hun hdep hI hpre K' hK'
        have hi : i = 0 ∨ i = 1 ∨ i = 2 ∨ i = 3 ∨ i = 4 ∨ i = 5 ∨ False := slot_cases (l := [0, 1, 2, 3, 4, 5]) rfl ho hst
        rcases hi with rfl | rfl | rfl | rfl | rfl | rfl | hi
        · obtain rfl := Option.some.inj ho
          have hvp : an.eval (.tmp 1) = ptrTo br0_0 := hI.oldQ (by kernel_rfl) rfl
          exact hI.pureQ (by kernel_rfl) hls rfl rfl rfl (.pointer (some ⟨br0_0, 0 + 0, none⟩)) (run_fieldQ (g := br0_0) (off := 0) (k := 0) rfl hvp Tryd.underlying80 rfl (by rfl) szN wn) (.val (.pointer (some ⟨br0_0, 0 + 0, none⟩))) rfl rfl rfl hK'
        · obtain rfl := Option.some.inj ho
          obtain ⟨vp, hvp, hsp⟩ := hI.haveQ 0 _ 18 (.val (.pointer (some ⟨br0_0, 0 + 0, none⟩))) rfl rfl rfl (hdep ⟨0, .data⟩ (by simp) rfl)
          obtain rfl := hsp
          exact hI.pureQ (by kernel_rfl) hls rfl rfl rfl (.agg (zr0_0.extract (0 + 0) (0 + 0 + 16))) (run_loadQ rfl (eval_of hvp) wn (hI.upd.blk (show Blk ws1_1 br0_0 80 zr0_0 from Bxr0y0_s1_1.out) (fun h => h)) Tryd.underlying45 rfl szN (by rw [hzr0_0.size]; exact Nat.le_of_ble_eq_true rfl)) (.val (.agg (zr0_0.extract (0 + 0) (0 + 0 + 16)))) rfl rfl rfl hK'
        · obtain rfl := Option.some.inj ho
          have hvp : an.eval (.tmp 1) = ptrTo br0_0 := hI.oldQ (by kernel_rfl) rfl
          exact hI.pureQ (by kernel_rfl) hls rfl rfl rfl (.pointer (some ⟨br0_0, 0 + 16, none⟩)) (run_fieldQ (g := br0_0) (off := 0) (k := 16) rfl hvp Tryd.underlying80 rfl (by rfl) szN wn) (.val (.pointer (some ⟨br0_0, 0 + 16, none⟩))) rfl rfl rfl hK'
        · obtain rfl := Option.some.inj ho
          obtain ⟨vp, hvp, hsp⟩ := hI.haveQ 2 _ 20 (.val (.pointer (some ⟨br0_0, 0 + 16, none⟩))) rfl rfl rfl (hdep ⟨2, .data⟩ (by simp) rfl)
          obtain rfl := hsp
          exact hI.pureQ (by kernel_rfl) hls rfl rfl rfl (.agg (zr0_0.extract (0 + 16) (0 + 16 + 16))) (run_loadQ rfl (eval_of hvp) wn (hI.upd.blk (show Blk ws1_1 br0_0 80 zr0_0 from Bxr0y0_s1_1.out) (fun h => h)) Tryd.underlying45 rfl szN (by rw [hzr0_0.size]; exact Nat.le_of_ble_eq_true rfl)) (.val (.agg (zr0_0.extract (0 + 16) (0 + 16 + 16)))) rfl rfl rfl hK'
        · obtain rfl := Option.some.inj ho
          obtain ⟨vp, hvp, hsp⟩ := hI.haveQ 1 _ 19 (.val (.agg (zr0_0.extract (0 + 0) (0 + 0 + 16)))) rfl rfl rfl (hdep ⟨1, .data⟩ (by simp) rfl)
          obtain rfl := hsp
          obtain ⟨vq, hvq, hsq⟩ := hI.haveQ 3 _ 21 (.val (.agg (zr0_0.extract (0 + 16) (0 + 16 + 16)))) rfl rfl rfl (hdep ⟨3, .data⟩ (by simp) rfl)
          obtain rfl := hsq
          exact hI.callQ (by kernel_rfl) hls rfl rfl rfl 58 #[.tmp 19, .tmp 21] _ rfl #[.agg (zr0_0.extract (0 + 0) (0 + 0 + 16)), .agg (zr0_0.extract (0 + 16) (0 + 16 + 16))] (by simp [eval_of hvp, eval_of hvq]) (run_enter Tryd.func58 (by kernel_rfl) (by kernel_rfl)) (.like (IsC 16 RN [x * z])) rfl rfl ((rMulE (hzr0_0.at 0 (0 + 0) rfl rfl) (hzr0_0.at 1 (0 + 16) rfl rfl)).mono fun _ _ h => h.sq) hK'
        · obtain rfl := Option.some.inj ho
          exact hI.newQ (by kernel_rfl) hls (Nat.le_refl _) (newsQ_spec (l := [5]) (by kernel_rfl) ⟨⟨_, _, rfl⟩, trivial⟩) rfl rfl rfl 45 zeroN _ (run_allocQ rfl zN_run wn) rfl zN_ch hK'
        · exact hi.elim
      · intro an w3 hI
        obtain ⟨vr2_0, hvr2_0, hsr2_0⟩ := hI.haveQ 0 _ 18 (.val (.pointer (some ⟨br0_0, 0 + 0, none⟩))) rfl rfl rfl rfl
        obtain rfl := hsr2_0
        obtain ⟨vr2_1, hvr2_1, hsr2_1⟩ := hI.haveQ 1 _ 19 (.val (.agg (zr0_0.extract (0 + 0) (0 + 0 + 16)))) rfl rfl rfl rfl
        obtain rfl := hsr2_1
        obtain ⟨vr2_2, hvr2_2, hsr2_2⟩ := hI.haveQ 2 _ 20 (.val (.pointer (some ⟨br0_0, 0 + 16, none⟩))) rfl rfl rfl rfl
        obtain rfl := hsr2_2
        obtain ⟨vr2_3, hvr2_3, hsr2_3⟩ := hI.haveQ 3 _ 21 (.val (.agg (zr0_0.extract (0 + 16) (0 + 16 + 16)))) rfl rfl rfl rfl
        obtain rfl := hsr2_3
        obtain ⟨vr2_4, hvr2_4, ar2_4, rfl, hCr2_4⟩ := hI.haveQ 4 _ 22 (.like (IsC 16 RN [x * z])) rfl rfl rfl rfl
        obtain ⟨vr2_5, hvr2_5, br2_5, zr2_5, rfl, hnr2_5, hbr2_5, hzr2_5⟩ := hI.haveQ 5 _ 5 (.blk ptrTo 45 (Ch 16 RN [0])) rfl rfl rfl rfl
        have hupd := hI.upd
        have ha := hI.act [(18, .pointer (some ⟨br0_0, 0 + 0, none⟩)), (19, .agg (zr0_0.extract (0 + 0) (0 + 0 + 16))), (20, .pointer (some ⟨br0_0, 0 + 16, none⟩)), (21, .agg (zr0_0.extract (0 + 16) (0 + 16 + 16))), (22, .agg ar2_4), (5, ptrTo br2_5)] (by simp [hvr2_0, hvr2_1, hvr2_2, hvr2_3, hvr2_4, hvr2_5]) (by kernel_rfl)
        clear hI hvr2_0 hvr2_1 hvr2_2 hvr2_3 hvr2_4 hvr2_5
        subst ha
        simp only [List.foldl_cons, List.foldl_nil, List.setIfInBounds_toArray, List.set_cons_zero, List.set_cons_succ]
        have hner2_5_Bxr0y0_s1_1 := Lib.hid (show br2_5 ≠ br0_0 from Nat.ne_of_gt (Nat.lt_of_lt_of_le Bxr0y0_s1_1.out.lt hnr2_5))
        have hner2_5_Bxr0y1_s1_1 := Lib.hid (show br2_5 ≠ br0_1 from Nat.ne_of_gt (Nat.lt_of_lt_of_le Bxr0y1_s1_1.out.lt hnr2_5))
        have hner2_5_Bxr1y10_s1_1 := Lib.hid (show br2_5 ≠ br1_10 from Nat.ne_of_gt (Nat.lt_of_lt_of_le Bxr1y10_s1_1.out.lt hnr2_5))
        have hner2_5_Bxr1y11_s1_1 := Lib.hid (show br2_5 ≠ br1_11 from Nat.ne_of_gt (Nat.lt_of_lt_of_le Bxr1y11_s1_1.out.lt hnr2_5))
        have hger2_5 := Lib.hid (Nat.le_trans HU1_1.out.size hnr2_5)
        have Bxr0y0_2 := Lib.hid (hupd.blk (show Blk ws1_1 br0_0 80 zr0_0 from Bxr0y0_s1_1.out) (fun h => h))
        have Bxr0y1_2 := Lib.hid (hupd.blk (show Blk ws1_1 br0_1 80 zr0_1 from Bxr0y1_s1_1.out) (fun h => h))
        have Bxr1y10_2 := Lib.hid (hupd.blk (show Blk ws1_1 br1_10 45 ar1_4 from Bxr1y10_s1_1.out) (fun h => h))
        have Bxr1y11_2 := Lib.hid (hupd.blk (show Blk ws1_1 br1_11 45 ar1_9 from Bxr1y11_s1_1.out) (fun h => h))
        have Bxr2y5 := Lib.hid hbr2_5
        have HU2 := Lib.hid (HU1_1.out.trans hupd)
        clear hupd
        refine wpOps_storeQ 6 rfl rfl rfl 45 (.tmp 5) (.tmp 22) rfl br2_5 0 16 rfl ar2_4 rfl 45 zr2_5 Bxr2y5.out szN hCr2_4.size (by rw [hzr2_5.size]; exact Nat.le_of_ble_eq_true rfl) hCr2_4.one' ?_
        intro ws2_0 hs2_0 hus2_0
        rw [splice_all _ _ 16 hzr2_5.size hCr2_4.size] at hs2_0
        have Bxr0y0_s2_0 := Lib.hid (hus2_0.blk Bxr0y0_2.out (fun e => hner2_5_Bxr0y0_s1_1.out e.symm))
        have Bxr0y1_s2_0 := Lib.hid (hus2_0.blk Bxr0y1_2.out (fun e => hner2_5_Bxr0y1_s1_1.out e.symm))
        have Bxr1y10_s2_0 := Lib.hid (hus2_0.blk Bxr1y10_2.out (fun e => hner2_5_Bxr1y10_s1_1.out e.symm))
        have Bxr1y11_s2_0 := Lib.hid (hus2_0.blk Bxr1y11_2.out (fun e => hner2_5_Bxr1y11_s1_1.out e.symm))
        have Bxr2y5_s2_0 := Lib.hid hs2_0
        have HU2_0 := Lib.hid (HU2.out.step hus2_0 (fun i hi h => absurd hi (Nat.not_lt.2 (h.symm ▸ hger2_5.out))))
        clear hs2_0 hus2_0
        refine wpOps_nil ?_
        refine hK2 _ _ ?_
        clear hK2
        refine wp_seq_k fun K3 hK3 => ?_
        refine wp_region_qS 4 #[true, true, true, true, false] [4] ([.val (.agg ar1_4), .val (.agg ar1_9), .like (IsC 16 RN [(x * x) - (z * z)]), .blk ptrTo 45 (Ch 16 RN [0]), .val undef] : List SQ) (by kernel_rfl) (by kernel_rfl) (by kernel_rfl) ?_ ?_
        · intro i o listed an wn ho hls hst hun hdep hI hpre K' hK'
          have hi : i = 0 ∨ i = 1 ∨ i = 2 ∨ i = 3 ∨ False := slot_cases (l := [0, 1, 2, 3]) rfl ho hst
          rcases hi with rfl | rfl | rfl | rfl | hi
          · obtain rfl := Option.some.inj ho
            have hvp : an.eval (.tmp 3) = ptrTo br1_10 := hI.oldQ (by kernel_rfl) rfl
            exact hI.pureQ (by kernel_rfl) hls rfl rfl rfl _ (run_loadQ rfl hvp wn (hI.upd.blk (show Blk ws2_0 br1_10 45 ar1_4 from Bxr1y10_s2_0.out) (fun h => h)) Tryd.underlying45 rfl szN (by rw [hCr1_4.size]; exact Nat.le_of_ble_eq_true rfl)) (.val (.agg ar1_4)) rfl (congrArg Value.agg (extract_all _ 16 hCr1_4.size)) rfl hK'
          · obtain rfl := Option.some.inj ho
            have hvp : an.eval (.tmp 4) = ptrTo br1_11 := hI.oldQ (by kernel_rfl) rfl
            exact hI.pureQ (by kernel_rfl) hls rfl rfl rfl _ (run_loadQ rfl hvp wn (hI.upd.blk (show Blk ws2_0 br1_11 45 ar1_9 from Bxr1y11_s2_0.out) (fun h => h)) Tryd.underlying45 rfl szN (by rw [hCr1_9.size]; exact Nat.le_of_ble_eq_true rfl)) (.val (.agg ar1_9)) rfl (congrArg Value.agg (extract_all _ 16 hCr1_9.size)) rfl hK'
          · obtain rfl := Option.some.inj ho
            obtain ⟨vp, hvp, hsp⟩ := hI.haveQ 0 _ 23 (.val (.agg ar1_4)) rfl rfl rfl (hdep ⟨0, .data⟩ (by simp) rfl)
            obtain rfl := hsp
            obtain ⟨vq, hvq, hsq⟩ := hI.haveQ 1 _ 24 (.val (.agg ar1_9)) rfl rfl rfl (hdep ⟨1, .data⟩ (by simp) rfl)
            obtain rfl := hsq
            exact hI.callQ (by kernel_rfl) hls rfl rfl rfl 66 #[.tmp 23, .tmp 24] _ rfl #[.agg ar1_4, .agg ar1_9] (by simp [eval_of hvp, eval_of hvq]) (run_enter Tryd.func66 (by kernel_rfl) (by kernel_rfl)) (.like (IsC 16 RN [(x * x) - (z * z)])) rfl rfl ((rSubE hCr1_4 hCr1_9).mono fun _ _ h => h.sq) hK'
          · obtain rfl := Option.some.inj ho
            exact hI.newQ (by kernel_rfl) hls (Nat.le_refl _) (newsQ_spec (l := [3]) (by kernel_rfl) ⟨⟨_, _, rfl⟩, trivial⟩) rfl rfl rfl 45 zeroN _ (run_allocQ rfl zN_run wn) rfl zN_ch hK'
          · exact hi.elim
        · intro an w4 hI
          obtain ⟨vr3_0, hvr3_0, hsr3_0⟩ := hI.haveQ 0 _ 23 (.val (.agg ar1_4)) rfl rfl rfl rfl
          obtain rfl := hsr3_0
          obtain ⟨vr3_1, hvr3_1, hsr3_1⟩ := hI.haveQ 1 _ 24 (.val (.agg ar1_9)) rfl rfl rfl rfl
          obtain rfl := hsr3_1
          obtain ⟨vr3_2, hvr3_2, ar3_2, rfl, hCr3_2⟩ := hI.haveQ 2 _ 25 (.like (IsC 16 RN [(x * x) - (z * z)])) rfl rfl rfl rfl
          obtain ⟨vr3_3, hvr3_3, br3_3, zr3_3, rfl, hnr3_3, hbr3_3, hzr3_3⟩ := hI.haveQ 3 _ 6 (.blk ptrTo 45 (Ch 16 RN [0])) rfl rfl rfl rfl
          have hupd := hI.upd
          have ha := hI.act [(23, .agg ar1_4), (24, .agg ar1_9), (25, .agg ar3_2), (6, ptrTo br3_3)] (by simp [hvr3_0, hvr3_1, hvr3_2, hvr3_3]) (by kernel_rfl)
          clear hI hvr3_0 hvr3_1 hvr3_2 hvr3_3
          subst ha
          simp only [List.foldl_cons, List.foldl_nil, List.setIfInBounds_toArray, List.set_cons_zero, List.set_cons_succ]
          have hner3_3_Bxr0y0_s2_0 := Lib.hid (show br3_3 ≠ br0_0 from Nat.ne_of_gt (Nat.lt_of_lt_of_le Bxr0y0_s2_0.out.lt hnr3_3))
          have hner3_3_Bxr0y1_s2_0 := Lib.hid (show br3_3 ≠ br0_1 from Nat.ne_of_gt (Nat.lt_of_lt_of_le Bxr0y1_s2_0.out.lt hnr3_3))
          have hner3_3_Bxr1y10_s2_0 := Lib.hid (show br3_3 ≠ br1_10 from Nat.ne_of_gt (Nat.lt_of_lt_of_le Bxr1y10_s2_0.out.lt hnr3_3))
          have hner3_3_Bxr1y11_s2_0 := Lib.hid (show br3_3 ≠ br1_11 from Nat.ne_of_gt (Nat.lt_of_lt_of_le Bxr1y11_s2_0.out.lt hnr3_3))
          have hner3_3_Bxr2y5_s2_0 := Lib.hid (show br3_3 ≠ br2_5 from Nat.ne_of_gt (Nat.lt_of_lt_of_le Bxr2y5_s2_0.out.lt hnr3_3))
          have hger3_3 := Lib.hid (Nat.le_trans HU2_0.out.size hnr3_3)
          have Bxr0y0_3 := Lib.hid (hupd.blk (show Blk ws2_0 br0_0 80 zr0_0 from Bxr0y0_s2_0.out) (fun h => h))
          have Bxr0y1_3 := Lib.hid (hupd.blk (show Blk ws2_0 br0_1 80 zr0_1 from Bxr0y1_s2_0.out) (fun h => h))
          have Bxr1y10_3 := Lib.hid (hupd.blk (show Blk ws2_0 br1_10 45 ar1_4 from Bxr1y10_s2_0.out) (fun h => h))
          have Bxr1y11_3 := Lib.hid (hupd.blk (show Blk ws2_0 br1_11 45 ar1_9 from Bxr1y11_s2_0.out) (fun h => h))
          have Bxr2y5_3 := Lib.hid (hupd.blk (show Blk ws2_0 br2_5 45 ar2_4 from Bxr2y5_s2_0.out) (fun h => h))
          have Bxr3y3 := Lib.hid hbr3_3
          have HU3 := Lib.hid (HU2_0.out.trans hupd)
          clear hupd
          refine wpOps_storeQ 4 rfl rfl rfl 45 (.tmp 6) (.tmp 25) rfl br3_3 0 16 rfl ar3_2 rfl 45 zr3_3 Bxr3y3.out szN hCr3_2.size (by rw [hzr3_3.size]; exact Nat.le_of_ble_eq_true rfl) hCr3_2.one' ?_
          intro ws3_0 hs3_0 hus3_0
          rw [splice_all _ _ 16 hzr3_3.size hCr3_2.size] at hs3_0
          have Bxr0y0_s3_0 := Lib.hid (hus3_0.blk Bxr0y0_3.out (fun e => hner3_3_Bxr0y0_s2_0.out e.symm))
          have Bxr0y1_s3_0 := Lib.hid (hus3_0.blk Bxr0y1_3.out (fun e => hner3_3_Bxr0y1_s2_0.out e.symm))
          have Bxr1y10_s3_0 := Lib.hid (hus3_0.blk Bxr1y10_3.out (fun e => hner3_3_Bxr1y10_s2_0.out e.symm))
          have Bxr1y11_s3_0 := Lib.hid (hus3_0.blk Bxr1y11_3.out (fun e => hner3_3_Bxr1y11_s2_0.out e.symm))
          have Bxr2y5_s3_0 := Lib.hid (hus3_0.blk Bxr2y5_3.out (fun e => hner3_3_Bxr2y5_s2_0.out e.symm))
          have Bxr3y3_s3_0 := Lib.hid hs3_0
          have HU3_0 := Lib.hid (HU3.out.step hus3_0 (fun i hi h => absurd hi (Nat.not_lt.2 (h.symm ▸ hger3_3.out))))
          clear hs3_0 hus3_0
          refine wpOps_nil ?_
          refine hK3 _ _ ?_
          clear hK3
          refine wp_seq_k fun K4 hK4 => ?_
          refine wp_region_q #[true, true, true, true, true, true, true, true, false] ([.val (.agg ar1_4), .val (.agg ar1_9), .like (IsC 16 RN [(x * x) + (z * z)]), .like (IsC 16 RN [fv 486662]), .val (.agg ar2_4), .like (IsC 16 RN [(fv 486662) * (x * z)]), .like (IsC 16 RN [((x * x) + (z * z)) + ((fv 486662) * (x * z))]), .blk ptrTo 45 (Ch 16 RN [0]), .val undef] : List SQ) (by kernel_rfl) (by kernel_rfl) (by kernel_rfl) ?_ ?_
          · intro i o listed an wn ho hls hst hun hdep hI K' hK'
            have hi : i = 0 ∨ i = 1 ∨ i = 2 ∨ i = 3 ∨ i = 4 ∨ i = 5 ∨ i = 6 ∨ i = 7 ∨ False := slot_cases (l := [0, 1, 2, 3, 4, 5, 6, 7]) rfl ho hst
            rcases hi with rfl | rfl | rfl | rfl | rfl | rfl | rfl | rfl | hi
            · obtain rfl := Option.some.inj ho
              have hvp : an.eval (.tmp 3) = ptrTo br1_10 := hI.oldQ (by kernel_rfl) rfl
              exact hI.pureQ (by kernel_rfl) hls rfl rfl rfl _ (run_loadQ rfl hvp wn (hI.upd.blk (show Blk ws3_0.drew br1_10 45 ar1_4 from Bxr1y10_s3_0.out) (fun h => h)) Tryd.underlying45 rfl szN (by rw [hCr1_4.size]; exact Nat.le_of_ble_eq_true rfl)) (.val (.agg ar1_4)) rfl (congrArg Value.agg (extract_all _ 16 hCr1_4.size)) rfl hK'
            · obtain rfl := Option.some.inj ho
              have hvp : an.eval (.tmp 4) = ptrTo br1_11 := hI.oldQ (by kernel_rfl) rfl
              exact hI.pureQ (by kernel_rfl) hls rfl rfl rfl _ (run_loadQ rfl hvp wn (hI.upd.blk (show Blk ws3_0.drew br1_11 45 ar1_9 from Bxr1y11_s3_0.out) (fun h => h)) Tryd.underlying45 rfl szN (by rw [hCr1_9.size]; exact Nat.le_of_ble_eq_true rfl)) (.val (.agg ar1_9)) rfl (congrArg Value.agg (extract_all _ 16 hCr1_9.size)) rfl hK'
            · obtain rfl := Option.some.inj ho
              obtain ⟨vp, hvp, hsp⟩ := hI.haveQ 0 _ 26 (.val (.agg ar1_4)) rfl rfl rfl (hdep ⟨0, .data⟩ (by simp) rfl)
              obtain rfl := hsp
              obtain ⟨vq, hvq, hsq⟩ := hI.haveQ 1 _ 27 (.val (.agg ar1_9)) rfl rfl rfl (hdep ⟨1, .data⟩ (by simp) rfl)
              obtain rfl := hsq
              exact hI.callQ (by kernel_rfl) hls rfl rfl rfl 67 #[.tmp 26, .tmp 27] _ rfl #[.agg ar1_4, .agg ar1_9] (by simp [eval_of hvp, eval_of hvq]) (run_enter Tryd.func67 (by kernel_rfl) (by kernel_rfl)) (.like (IsC 16 RN [(x * x) + (z * z)])) rfl rfl ((rAddE hCr1_4 hCr1_9).mono fun _ _ h => h.sq) hK'
            · obtain rfl := Option.some.inj ho
              exact hI.callQ (by kernel_rfl) hls rfl rfl rfl 54 #[.const (.int .u64 486662)] _ rfl #[.int .u64 486662] (by simp [Act.eval]) (run_enter Tryd.func54 (by kernel_rfl) (by kernel_rfl)) (.like (IsC 16 RN [fv 486662])) rfl rfl ((rSmallE 486662 (by decide) (by decide)).mono fun _ _ h => h.sq) hK'
            · obtain rfl := Option.some.inj ho
              have hvp : an.eval (.tmp 5) = ptrTo br2_5 := hI.oldQ (by kernel_rfl) rfl
              exact hI.pureQ (by kernel_rfl) hls rfl rfl rfl _ (run_loadQ rfl hvp wn (hI.upd.blk (show Blk ws3_0.drew br2_5 45 ar2_4 from Bxr2y5_s3_0.out) (fun h => h)) Tryd.underlying45 rfl szN (by rw [hCr2_4.size]; exact Nat.le_of_ble_eq_true rfl)) (.val (.agg ar2_4)) rfl (congrArg Value.agg (extract_all _ 16 hCr2_4.size)) rfl hK'
            · obtain rfl := Option.some.inj ho
              obtain ⟨vp, hvp, ap, rfl, hCp⟩ := hI.haveQ 3 _ 29 (.like (IsC 16 RN [fv 486662])) rfl rfl rfl (hdep ⟨3, .data⟩ (by simp) rfl)
              obtain ⟨vq, hvq, hsq⟩ := hI.haveQ 4 _ 30 (.val (.agg ar2_4)) rfl rfl rfl (hdep ⟨4, .data⟩ (by simp) rfl)
              obtain rfl := hsq
              exact hI.callQ (by kernel_rfl) hls rfl rfl rfl 58 #[.tmp 29, .tmp 30] _ rfl #[.agg ap, .agg ar2_4] (by simp [eval_of hvp, eval_of hvq]) (run_enter Tryd.func58 (by kernel_rfl) (by kernel_rfl)) (.like (IsC 16 RN [(fv 486662) * (x * z)])) rfl rfl ((rMulE hCp hCr2_4).mono fun _ _ h => h.sq) hK'
            · obtain rfl := Option.some.inj ho
              obtain ⟨vp, hvp, ap, rfl, hCp⟩ := hI.haveQ 2 _ 28 (.like (IsC 16 RN [(x * x) + (z * z)])) rfl rfl rfl (hdep ⟨2, .data⟩ (by simp) rfl)
              obtain ⟨vq, hvq, aq, rfl, hCq⟩ := hI.haveQ 5 _ 31 (.like (IsC 16 RN [(fv 486662) * (x * z)])) rfl rfl rfl (hdep ⟨5, .data⟩ (by simp) rfl)
              exact hI.callQ (by kernel_rfl) hls rfl rfl rfl 67 #[.tmp 28, .tmp 31] _ rfl #[.agg ap, .agg aq] (by simp [eval_of hvp, eval_of hvq]) (run_enter Tryd.func67 (by kernel_rfl) (by kernel_rfl)) (.like (IsC 16 RN [((x * x) + (z * z)) + ((fv 486662) * (x * z))])) rfl rfl ((rAddE hCp hCq).mono fun _ _ h => h.sq) hK'
            · obtain rfl := Option.some.inj ho
              exact hI.newQ (by kernel_rfl) hls (Nat.le_refl _) (newsQ_spec (l := [7]) (by kernel_rfl) ⟨⟨_, _, rfl⟩, trivial⟩) rfl rfl rfl 45 zeroN _ (run_allocQ rfl zN_run wn) rfl zN_ch hK'
            · exact hi.elim
          · intro fuel an w5 hf hI
            obtain ⟨vr4_0, hvr4_0, hsr4_0⟩ := hI.haveQ 0 _ 26 (.val (.agg ar1_4)) rfl rfl rfl rfl
            obtain rfl := hsr4_0
            obtain ⟨vr4_1, hvr4_1, hsr4_1⟩ := hI.haveQ 1 _ 27 (.val (.agg ar1_9)) rfl rfl rfl rfl
            obtain rfl := hsr4_1
            obtain ⟨vr4_2, hvr4_2, ar4_2, rfl, hCr4_2⟩ := hI.haveQ 2 _ 28 (.like (IsC 16 RN [(x * x) + (z * z)])) rfl rfl rfl rfl
            obtain ⟨vr4_3, hvr4_3, ar4_3, rfl, hCr4_3⟩ := hI.haveQ 3 _ 29 (.like (IsC 16 RN [fv 486662])) rfl rfl rfl rfl
            obtain ⟨vr4_4, hvr4_4, hsr4_4⟩ := hI.haveQ 4 _ 30 (.val (.agg ar2_4)) rfl rfl rfl rfl
            obtain rfl := hsr4_4
            obtain ⟨vr4_5, hvr4_5, ar4_5, rfl, hCr4_5⟩ := hI.haveQ 5 _ 31 (.like (IsC 16 RN [(fv 486662) * (x * z)])) rfl rfl rfl rfl
            obtain ⟨vr4_6, hvr4_6, ar4_6, rfl, hCr4_6⟩ := hI.haveQ 6 _ 32 (.like (IsC 16 RN [((x * x) + (z * z)) + ((fv 486662) * (x * z))])) rfl rfl rfl rfl
            obtain ⟨vr4_7, hvr4_7, br4_7, zr4_7, rfl, hnr4_7, hbr4_7, hzr4_7⟩ := hI.haveQ 7 _ 7 (.blk ptrTo 45 (Ch 16 RN [0])) rfl rfl rfl rfl
            have hupd := hI.upd
            have ha := hI.act [(26, .agg ar1_4), (27, .agg ar1_9), (28, .agg ar4_2), (29, .agg ar4_3), (30, .agg ar2_4), (31, .agg ar4_5), (32, .agg ar4_6), (7, ptrTo br4_7)] (by simp [hvr4_0, hvr4_1, hvr4_2, hvr4_3, hvr4_4, hvr4_5, hvr4_6, hvr4_7]) (by kernel_rfl)
            clear hI hvr4_0 hvr4_1 hvr4_2 hvr4_3 hvr4_4 hvr4_5 hvr4_6 hvr4_7
            subst ha
            simp only [List.foldl_cons, List.foldl_nil, List.setIfInBounds_toArray, List.set_cons_zero, List.set_cons_succ]
            have hner4_7_Bxr0y0_s3_0 := Lib.hid (show br4_7 ≠ br0_0 from Nat.ne_of_gt (Nat.lt_of_lt_of_le Bxr0y0_s3_0.out.lt hnr4_7))
            have hner4_7_Bxr0y1_s3_0 := Lib.hid (show br4_7 ≠ br0_1 from Nat.ne_of_gt (Nat.lt_of_lt_of_le Bxr0y1_s3_0.out.lt hnr4_7))
            have hner4_7_Bxr1y10_s3_0 := Lib.hid (show br4_7 ≠ br1_10 from Nat.ne_of_gt (Nat.lt_of_lt_of_le Bxr1y10_s3_0.out.lt hnr4_7))
            have hner4_7_Bxr1y11_s3_0 := Lib.hid (show br4_7 ≠ br1_11 from Nat.ne_of_gt (Nat.lt_of_lt_of_le Bxr1y11_s3_0.out.lt hnr4_7))
            have hner4_7_Bxr2y5_s3_0 := Lib.hid (show br4_7 ≠ br2_5 from Nat.ne_of_gt (Nat.lt_of_lt_of_le Bxr2y5_s3_0.out.lt hnr4_7))
            have hner4_7_Bxr3y3_s3_0 := Lib.hid (show br4_7 ≠ br3_3 from Nat.ne_of_gt (Nat.lt_of_lt_of_le Bxr3y3_s3_0.out.lt hnr4_7))
            have hger4_7 := Lib.hid (Nat.le_trans HU3_0.out.size hnr4_7)
            have Bxr0y0_4 := Lib.hid (hupd.blk (show Blk ws3_0.drew br0_0 80 zr0_0 from Bxr0y0_s3_0.out) (fun h => h))
            have Bxr0y1_4 := Lib.hid (hupd.blk (show Blk ws3_0.drew br0_1 80 zr0_1 from Bxr0y1_s3_0.out) (fun h => h))
            have Bxr1y10_4 := Lib.hid (hupd.blk (show Blk ws3_0.drew br1_10 45 ar1_4 from Bxr1y10_s3_0.out) (fun h => h))
            have Bxr1y11_4 := Lib.hid (hupd.blk (show Blk ws3_0.drew br1_11 45 ar1_9 from Bxr1y11_s3_0.out) (fun h => h))
            have Bxr2y5_4 := Lib.hid (hupd.blk (show Blk ws3_0.drew br2_5 45 ar2_4 from Bxr2y5_s3_0.out) (fun h => h))
            have Bxr3y3_4 := Lib.hid (hupd.blk (show Blk ws3_0.drew br3_3 45 ar3_2 from Bxr3y3_s3_0.out) (fun h => h))
            have Bxr4y7 := Lib.hid hbr4_7
            have HU4 := Lib.hid (HU3_0.out.drew.trans hupd)
            clear hupd
            have hf0 : left #[true, true, true, true, true, true, true, true, false] 9 = 1 := by kernel_rfl
            have hf1 : left #[true, true, true, true, true, true, true, true, false] 9 ≤ fuel := hf
            obtain ⟨fu, rfl⟩ : ∃ fu, fuel = fu + 1 := ⟨fuel - 1, by omega⟩
            clear hf hf0 hf1
            refine wpAny_storeQ 8 rfl (by kernel_rfl) rfl rfl 45 (.tmp 7) (.tmp 32) rfl br4_7 0 16 rfl ar4_6 rfl 45 zr4_7 Bxr4y7.out szN hCr4_6.size (by rw [hzr4_7.size]; exact Nat.le_of_ble_eq_true rfl) hCr4_6.one' ?_
            intro ws4_0 hs4_0 hus4_0
            rw [splice_all _ _ 16 hzr4_7.size hCr4_6.size] at hs4_0
            have Bxr0y0_s4_0 := Lib.hid (hus4_0.blk Bxr0y0_4.out (fun e => hner4_7_Bxr0y0_s3_0.out e.symm))
            have Bxr0y1_s4_0 := Lib.hid (hus4_0.blk Bxr0y1_4.out (fun e => hner4_7_Bxr0y1_s3_0.out e.symm))
            have Bxr1y10_s4_0 := Lib.hid (hus4_0.blk Bxr1y10_4.out (fun e => hner4_7_Bxr1y10_s3_0.out e.symm))
            have Bxr1y11_s4_0 := Lib.hid (hus4_0.blk Bxr1y11_4.out (fun e => hner4_7_Bxr1y11_s3_0.out e.symm))
            have Bxr2y5_s4_0 := Lib.hid (hus4_0.blk Bxr2y5_4.out (fun e => hner4_7_Bxr2y5_s3_0.out e.symm))
            have Bxr3y3_s4_0 := Lib.hid (hus4_0.blk Bxr3y3_4.out (fun e => hner4_7_Bxr3y3_s3_0.out e.symm))
            have Bxr4y7_s4_0 := Lib.hid hs4_0
            have HU4_0 := Lib.hid (HU4.out.step hus4_0 (fun i hi h => absurd hi (Nat.not_lt.2 (h.symm ▸ hger4_7.out))))
            clear hs4_0 hus4_0
            refine wpAny_done (by kernel_rfl) ?_ _
            refine hK4 _ _ ?_
            clear hK4
            refine wp_seq_k fun K5 hK5 => ?_
            refine wp_region_q #[true, true, true, true, true, true, true, true, true, false] ([.val (.agg ar3_2), .val (.agg ar3_2), .like (IsC 16 RN [((x * x) - (z * z)) * ((x * x) - (z * z))]), .like (IsC 16 RN [fv 4]), .val (.agg ar2_4), .like (IsC 16 RN [(fv 4) * (x * z)]), .val (.agg ar4_6), .like (IsC 16 RN [((fv 4) * (x * z)) * (((x * x) + (z * z)) + ((fv 486662) * (x * z)))]), .like (IsC 16 RN [((x * x) - (z * z)) * ((x * x) - (z * z)), ((fv 4) * (x * z)) * (((x * x) + (z * z)) + ((fv 486662) * (x * z)))]), .val undef] : List SQ) (by kernel_rfl) (by kernel_rfl) (by kernel_rfl) ?_ ?_
            · intro i o listed an wn ho hls hst hun hdep hI K' hK'
              have hi : i = 0 ∨ i = 1 ∨ i = 2 ∨ i = 3 ∨ i = 4 ∨ i = 5 ∨ i = 6 ∨ i = 7 ∨ i = 8 ∨ False := slot_cases (l := [0, 1, 2, 3, 4, 5, 6, 7, 8]) rfl ho hst
              rcases hi with rfl | rfl | rfl | rfl | rfl | rfl | rfl | rfl | rfl | hi
              · obtain rfl := Option.some.inj ho
                have hvp : an.eval (.tmp 6) = ptrTo br3_3 := hI.oldQ (by kernel_rfl) rfl
                exact hI.pureQ (by kernel_rfl) hls rfl rfl rfl _ (run_loadQ rfl hvp wn (hI.upd.blk (show Blk ws4_0.drew br3_3 45 ar3_2 from Bxr3y3_s4_0.out) (fun h => h)) Tryd.underlying45 rfl szN (by rw [hCr3_2.size]; exact Nat.le_of_ble_eq_true rfl)) (.val (.agg ar3_2)) rfl (congrArg Value.agg (extract_all _ 16 hCr3_2.size)) rfl hK'
              · obtain rfl := Option.some.inj ho
                have hvp : an.eval (.tmp 6) = ptrTo br3_3 := hI.oldQ (by kernel_rfl) rfl
                exact hI.pureQ (by kernel_rfl) hls rfl rfl rfl _ (run_loadQ rfl hvp wn (hI.upd.blk (show Blk ws4_0.drew br3_3 45 ar3_2 from Bxr3y3_s4_0.out) (fun h => h)) Tryd.underlying45 rfl szN (by rw [hCr3_2.size]; exact Nat.le_of_ble_eq_true rfl)) (.val (.agg ar3_2)) rfl (congrArg Value.agg (extract_all _ 16 hCr3_2.size)) rfl hK'
              · obtain rfl := Option.some.inj ho
                obtain ⟨vp, hvp, hsp⟩ := hI.haveQ 0 _ 33 (.val (.agg ar3_2)) rfl rfl rfl (hdep ⟨0, .data⟩ (by simp) rfl)
                obtain rfl := hsp
                obtain ⟨vq, hvq, hsq⟩ := hI.haveQ 1 _ 34 (.val (.agg ar3_2)) rfl rfl rfl (hdep ⟨1, .data⟩ (by simp) rfl)
                obtain rfl := hsq
                exact hI.callQ (by kernel_rfl) hls rfl rfl rfl 58 #[.tmp 33, .tmp 34] _ rfl #[.agg ar3_2, .agg ar3_2] (by simp [eval_of hvp, eval_of hvq]) (run_enter Tryd.func58 (by kernel_rfl) (by kernel_rfl)) (.like (IsC 16 RN [((x * x) - (z * z)) * ((x * x) - (z * z))])) rfl rfl ((rMulE hCr3_2 hCr3_2).mono fun _ _ h => h.sq) hK'
              · obtain rfl := Option.some.inj ho
                exact hI.callQ (by kernel_rfl) hls rfl rfl rfl 54 #[.const (.int .u64 4)] _ rfl #[.int .u64 4] (by simp [Act.eval]) (run_enter Tryd.func54 (by kernel_rfl) (by kernel_rfl)) (.like (IsC 16 RN [fv 4])) rfl rfl ((rSmallE 4 (by decide) (by decide)).mono fun _ _ h => h.sq) hK'
              · obtain rfl := Option.some.inj ho
                have hvp : an.eval (.tmp 5) = ptrTo br2_5 := hI.oldQ (by kernel_rfl) rfl
                exact hI.pureQ (by kernel_rfl) hls rfl rfl rfl _ (run_loadQ rfl hvp wn (hI.upd.blk (show Blk ws4_0.drew br2_5 45 ar2_4 from Bxr2y5_s4_0.out) (fun h => h)) Tryd.underlying45 rfl szN (by rw [hCr2_4.size]; exact Nat.le_of_ble_eq_true rfl)) (.val (.agg ar2_4)) rfl (congrArg Value.agg (extract_all _ 16 hCr2_4.size)) rfl hK'
              · obtain rfl := Option.some.inj ho
                obtain ⟨vp, hvp, ap, rfl, hCp⟩ := hI.haveQ 3 _ 36 (.like (IsC 16 RN [fv 4])) rfl rfl rfl (hdep ⟨3, .data⟩ (by simp) rfl)
                obtain ⟨vq, hvq, hsq⟩ := hI.haveQ 4 _ 37 (.val (.agg ar2_4)) rfl rfl rfl (hdep ⟨4, .data⟩ (by simp) rfl)
                obtain rfl := hsq
                exact hI.callQ (by kernel_rfl) hls rfl rfl rfl 58 #[.tmp 36, .tmp 37] _ rfl #[.agg ap, .agg ar2_4] (by simp [eval_of hvp, eval_of hvq]) (run_enter Tryd.func58 (by kernel_rfl) (by kernel_rfl)) (.like (IsC 16 RN [(fv 4) * (x * z)])) rfl rfl ((rMulE hCp hCr2_4).mono fun _ _ h => h.sq) hK'
              · obtain rfl := Option.some.inj ho
                have hvp : an.eval (.tmp 7) = ptrTo br4_7 := hI.oldQ (by kernel_rfl) rfl
                exact hI.pureQ (by kernel_rfl) hls rfl rfl rfl _ (run_loadQ rfl hvp wn (hI.upd.blk (show Blk ws4_0.drew br4_7 45 ar4_6 from Bxr4y7_s4_0.out) (fun h => h)) Tryd.underlying45 rfl szN (by rw [hCr4_6.size]; exact Nat.le_of_ble_eq_true rfl)) (.val (.agg ar4_6)) rfl (congrArg Value.agg (extract_all _ 16 hCr4_6.size)) rfl hK'
              · obtain rfl := Option.some.inj ho
                obtain ⟨vp, hvp, ap, rfl, hCp⟩ := hI.haveQ 5 _ 38 (.like (IsC 16 RN [(fv 4) * (x * z)])) rfl rfl rfl (hdep ⟨5, .data⟩ (by simp) rfl)
                obtain ⟨vq, hvq, hsq⟩ := hI.haveQ 6 _ 39 (.val (.agg ar4_6)) rfl rfl rfl (hdep ⟨6, .data⟩ (by simp) rfl)
                obtain rfl := hsq
                exact hI.callQ (by kernel_rfl) hls rfl rfl rfl 58 #[.tmp 38, .tmp 39] _ rfl #[.agg ap, .agg ar4_6] (by simp [eval_of hvp, eval_of hvq]) (run_enter Tryd.func58 (by kernel_rfl) (by kernel_rfl)) (.like (IsC 16 RN [((fv 4) * (x * z)) * (((x * x) + (z * z)) + ((fv 486662) * (x * z)))])) rfl rfl ((rMulE hCp hCr4_6).mono fun _ _ h => h.sq) hK'
              · obtain rfl := Option.some.inj ho
                obtain ⟨vp, hvp, ap, rfl, hCp⟩ := hI.haveQ 2 _ 35 (.like (IsC 16 RN [((x * x) - (z * z)) * ((x * x) - (z * z))])) rfl rfl rfl (hdep ⟨2, .data⟩ (by simp) rfl)
                obtain ⟨vq, hvq, aq, rfl, hCq⟩ := hI.haveQ 7 _ 40 (.like (IsC 16 RN [((fv 4) * (x * z)) * (((x * x) + (z * z)) + ((fv 486662) * (x * z)))])) rfl rfl rfl (hdep ⟨7, .data⟩ (by simp) rfl)
                exact hI.pureQ (by kernel_rfl) hls rfl rfl rfl _ (run_buildR5 rfl (eval_of hvp) (eval_of hvq) hCp.size hCq.size wn) (.like (IsC 16 RN [((x * x) - (z * z)) * ((x * x) - (z * z)), ((fv 4) * (x * z)) * (((x * x) + (z * z)) + ((fv 486662) * (x * z)))])) rfl ⟨_, rfl, (hCp.cat hCq)⟩ rfl hK'
              · exact hi.elim
            · intro fuel an w6 hf hI
              obtain ⟨vr5_0, hvr5_0, hsr5_0⟩ := hI.haveQ 0 _ 33 (.val (.agg ar3_2)) rfl rfl rfl rfl
              obtain rfl := hsr5_0
              obtain ⟨vr5_1, hvr5_1, hsr5_1⟩ := hI.haveQ 1 _ 34 (.val (.agg ar3_2)) rfl rfl rfl rfl
              obtain rfl := hsr5_1
              obtain ⟨vr5_2, hvr5_2, ar5_2, rfl, hCr5_2⟩ := hI.haveQ 2 _ 35 (.like (IsC 16 RN [((x * x) - (z * z)) * ((x * x) - (z * z))])) rfl rfl rfl rfl
              obtain ⟨vr5_3, hvr5_3, ar5_3, rfl, hCr5_3⟩ := hI.haveQ 3 _ 36 (.like (IsC 16 RN [fv 4])) rfl rfl rfl rfl
              obtain ⟨vr5_4, hvr5_4, hsr5_4⟩ := hI.haveQ 4 _ 37 (.val (.agg ar2_4)) rfl rfl rfl rfl
              obtain rfl := hsr5_4
              obtain ⟨vr5_5, hvr5_5, ar5_5, rfl, hCr5_5⟩ := hI.haveQ 5 _ 38 (.like (IsC 16 RN [(fv 4) * (x * z)])) rfl rfl rfl rfl
              obtain ⟨vr5_6, hvr5_6, hsr5_6⟩ := hI.haveQ 6 _ 39 (.val (.agg ar4_6)) rfl rfl rfl rfl
              obtain rfl := hsr5_6
              obtain ⟨vr5_7, hvr5_7, ar5_7, rfl, hCr5_7⟩ := hI.haveQ 7 _ 40 (.like (IsC 16 RN [((fv 4) * (x * z)) * (((x * x) + (z * z)) + ((fv 486662) * (x * z)))])) rfl rfl rfl rfl
              obtain ⟨vr5_8, hvr5_8, ar5_8, rfl, hCr5_8⟩ := hI.haveQ 8 _ 41 (.like (IsC 16 RN [((x * x) - (z * z)) * ((x * x) - (z * z)), ((fv 4) * (x * z)) * (((x * x) + (z * z)) + ((fv 486662) * (x * z)))])) rfl rfl rfl rfl
              have hupd := hI.upd
              have ha := hI.act [(33, .agg ar3_2), (34, .agg ar3_2), (35, .agg ar5_2), (36, .agg ar5_3), (37, .agg ar2_4), (38, .agg ar5_5), (39, .agg ar4_6), (40, .agg ar5_7), (41, .agg ar5_8)] (by simp [hvr5_0, hvr5_1, hvr5_2, hvr5_3, hvr5_4, hvr5_5, hvr5_6, hvr5_7, hvr5_8]) (by kernel_rfl)
              clear hI hvr5_0 hvr5_1 hvr5_2 hvr5_3 hvr5_4 hvr5_5 hvr5_6 hvr5_7 hvr5_8
              subst ha
              simp only [List.foldl_cons, List.foldl_nil, List.setIfInBounds_toArray, List.set_cons_zero, List.set_cons_succ]
              have Bxr0y0_5 := Lib.hid (hupd.blk (show Blk ws4_0.drew br0_0 80 zr0_0 from Bxr0y0_s4_0.out) (fun h => h))
              have Bxr0y1_5 := Lib.hid (hupd.blk (show Blk ws4_0.drew br0_1 80 zr0_1 from Bxr0y1_s4_0.out) (fun h => h))
              have Bxr1y10_5 := Lib.hid (hupd.blk (show Blk ws4_0.drew br1_10 45 ar1_4 from Bxr1y10_s4_0.out) (fun h => h))
              have Bxr1y11_5 := Lib.hid (hupd.blk (show Blk ws4_0.drew br1_11 45 ar1_9 from Bxr1y11_s4_0.out) (fun h => h))
              have Bxr2y5_5 := Lib.hid (hupd.blk (show Blk ws4_0.drew br2_5 45 ar2_4 from Bxr2y5_s4_0.out) (fun h => h))
              have Bxr3y3_5 := Lib.hid (hupd.blk (show Blk ws4_0.drew br3_3 45 ar3_2 from Bxr3y3_s4_0.out) (fun h => h))
              have Bxr4y7_5 := Lib.hid (hupd.blk (show Blk ws4_0.drew br4_7 45 ar4_6 from Bxr4y7_s4_0.out) (fun h => h))
              have HU5 := Lib.hid (HU4_0.out.drew.trans hupd)
              clear hupd
              have hf0 : left #[true, true, true, true, true, true, true, true, true, false] 10 = 1 := by kernel_rfl
              have hf1 : left #[true, true, true, true, true, true, true, true, true, false] 10 ≤ fuel := hf
              obtain ⟨fu, rfl⟩ : ∃ fu, fuel = fu + 1 := ⟨fuel - 1, by omega⟩
              clear hf hf0 hf1
              refine wpAny_storeQ 9 rfl (by kernel_rfl) rfl rfl 80 (.tmp 2) (.tmp 41) rfl br0_1 0 32 rfl ar5_8 rfl 80 zr0_1 Bxr0y1_5.out szR5 hCr5_8.size (by rw [hzr0_1.size]; exact Nat.le_of_ble_eq_true rfl) hCr5_8.one' ?_
              intro ws5_0 hs5_0 hus5_0
              rw [splice_all _ _ 32 hzr0_1.size hCr5_8.size] at hs5_0
              have Bxr0y0_s5_0 := Lib.hid (hus5_0.blk Bxr0y0_5.out (fun e => hner0_0_r0_1.out e))
              have Bxr1y10_s5_0 := Lib.hid (hus5_0.blk Bxr1y10_5.out (fun e => hner1_10_Bxr0y1.out e))
              have Bxr1y11_s5_0 := Lib.hid (hus5_0.blk Bxr1y11_5.out (fun e => hner1_11_Bxr0y1.out e))
              have Bxr2y5_s5_0 := Lib.hid (hus5_0.blk Bxr2y5_5.out (fun e => hner2_5_Bxr0y1_s1_1.out e))
              have Bxr3y3_s5_0 := Lib.hid (hus5_0.blk Bxr3y3_5.out (fun e => hner3_3_Bxr0y1_s2_0.out e))
              have Bxr4y7_s5_0 := Lib.hid (hus5_0.blk Bxr4y7_5.out (fun e => hner4_7_Bxr0y1_s3_0.out e))
              have Bxr0y1_s5_0 := Lib.hid hs5_0
              have HU5_0 := Lib.hid (HU5.out.step hus5_0 (fun i hi h => absurd hi (Nat.not_lt.2 (h.symm ▸ hger0_1.out))))
              clear hs5_0 hus5_0
              refine wpAny_done (by kernel_rfl) ?_ _
              refine hK5 _ _ ?_
              clear hK5
              refine wp_ret ?_
              try dsimp only [Exit.then]
              try dsimp only [Exit.inBlock]
              exact bodyPost_ret (v := .agg ar5_8) (results_cell_row (fn := Tryd.f56) (p := 2) (ty := 80) rfl _ _ br0_1 80 _ (0, 0) _ rfl Bxr0y1_s5_0.out Tryd.underlying80 rfl (by rw [hCr5_8.size]; exact szR5)) rfl ⟨_, rfl, hCr5_8, HU5_0.out⟩
set_option maxHeartbeats 4000000 in
theorem raddL {x1 z1 x2 z2 u : Fp} {a b c : Array Value} (w : World) (ha : Ch 16 RN [x1, z1] a) (hb : Ch 16 RN [x2, z2] b) (hc : Ch 16 RN [u] c) :
    Calls Tryd.prog 55 #[.agg a, .agg b, .agg c] w (RetC 16 RN [((x1 * x2) - (z1 * z2)) * ((x1 * x2) - (z1 * z2)), u * (((x1 * z2) - (z1 * x2)) * ((x1 * z2) - (z1 * x2)))] w) := by
  have HU := Lib.hid (Upd.refl (fun _ => False) w)
  go_enter Tryd.func55, Tryd.ntmps55
  refine wp_seq_k fun K0 hK0 => ?_
  refine wp_region_qS 4 #[true, true, true, true] [] ([.blk ptrTo 80 (Ch 16 RN [x1, z1]), .blk ptrTo 80 (Ch 16 RN [x2, z2]), .blk ptrTo 45 (Ch 16 RN [u]), .blk ptrTo 80 (Ch 16 RN [0, 0])] : List SQ) (by kernel_rfl) (by kernel_rfl) (by kernel_rfl) ?_ ?_
  · intro i o listed an wn ho hls hst hun hdep hI hpre K' hK'
    have hi : i = 0 ∨ i = 1 ∨ i = 2 ∨ i = 3 ∨ False := slot_cases (l := [0, 1, 2, 3]) rfl ho hst
    rcases hi with rfl | rfl | rfl | rfl | hi
    · obtain rfl := Option.some.inj ho
      have hvp : an.eval (.tmp 0) = .agg a := hI.oldQ (by kernel_rfl) rfl
      exact hI.newQ (by kernel_rfl) hls (Nat.le_refl _) (newsQ_spec (l := [0, 1, 2, 3]) (by kernel_rfl) ⟨⟨_, _, rfl⟩, ⟨_, _, rfl⟩, ⟨_, _, rfl⟩, ⟨_, _, rfl⟩, trivial⟩) rfl rfl rfl 80 a _ (run_boxQ rfl hvp wn) rfl ha hK'
    · obtain rfl := Option.some.inj ho
      have hvp : an.eval (.tmp 1) = .agg b := hI.oldQ (by kernel_rfl) rfl
      exact hI.newQ (by kernel_rfl) hls (Nat.le_refl _) (newsQ_spec (l := [0, 1, 2, 3]) (by kernel_rfl) ⟨⟨_, _, rfl⟩, ⟨_, _, rfl⟩, ⟨_, _, rfl⟩, ⟨_, _, rfl⟩, trivial⟩) rfl rfl rfl 80 b _ (run_boxQ rfl hvp wn) rfl hb hK'
    · obtain rfl := Option.some.inj ho
      have hvp : an.eval (.tmp 2) = .agg c := hI.oldQ (by kernel_rfl) rfl
      exact hI.newQ (by kernel_rfl) hls (Nat.le_refl _) (newsQ_spec (l := [0, 1, 2, 3]) (by kernel_rfl) ⟨⟨_, _, rfl⟩, ⟨_, _, rfl⟩, ⟨_, _, rfl⟩, ⟨_, _, rfl⟩, trivial⟩) rfl rfl rfl 45 c _ (run_boxQ rfl hvp wn) rfl hc hK'
    · obtain rfl := Option.some.inj ho
      exact hI.newQ (by kernel_rfl) hls (Nat.le_refl _) (newsQ_spec (l := [0, 1, 2, 3]) (by kernel_rfl) ⟨⟨_, _, rfl⟩, ⟨_, _, rfl⟩, ⟨_, _, rfl⟩, ⟨_, _, rfl⟩, trivial⟩) rfl rfl rfl 80 zR5 _ (run_allocQ rfl zR5_run wn) rfl zR5_ch hK'
    · exact hi.elim
  · intro an w1 hI
    obtain ⟨vr0_0, hvr0_0, br0_0, zr0_0, rfl, hnr0_0, hbr0_0, hzr0_0⟩ := hI.haveQ 0 _ 3 (.blk ptrTo 80 (Ch 16 RN [x1, z1])) rfl rfl rfl rfl
    obtain ⟨vr0_1, hvr0_1, br0_1, zr0_1, rfl, hnr0_1, hbr0_1, hzr0_1⟩ := hI.haveQ 1 _ 4 (.blk ptrTo 80 (Ch 16 RN [x2, z2])) rfl rfl rfl rfl
    obtain ⟨vr0_2, hvr0_2, br0_2, zr0_2, rfl, hnr0_2, hbr0_2, hzr0_2⟩ := hI.haveQ 2 _ 5 (.blk ptrTo 45 (Ch 16 RN [u])) rfl rfl rfl rfl
    obtain ⟨vr0_3, hvr0_3, br0_3, zr0_3, rfl, hnr0_3, hbr0_3, hzr0_3⟩ := hI.haveQ 3 _ 6 (.blk ptrTo 80 (Ch 16 RN [0, 0])) rfl rfl rfl rfl
    have hupd := hI.upd
    have hner0_0_r0_1 := Lib.hid (show br0_0 ≠ br0_1 from fun e => hI.apart 0 1 _ _ 3 4 (by omega) rfl rfl rfl rfl rfl rfl rfl rfl (by rw [hvr0_0, hvr0_1, e]))
    have hner0_0_r0_2 := Lib.hid (show br0_0 ≠ br0_2 from fun e => hI.apart 0 2 _ _ 3 5 (by omega) rfl rfl rfl rfl rfl rfl rfl rfl (by rw [hvr0_0, hvr0_2, e]))
    have hner0_0_r0_3 := Lib.hid (show br0_0 ≠ br0_3 from fun e => hI.apart 0 3 _ _ 3 6 (by omega) rfl rfl rfl rfl rfl rfl rfl rfl (by rw [hvr0_0, hvr0_3, e]))
    have hner0_1_r0_2 := Lib.hid (show br0_1 ≠ br0_2 from fun e => hI.apart 1 2 _ _ 4 5 (by omega) rfl rfl rfl rfl rfl rfl rfl rfl (by rw [hvr0_1, hvr0_2, e]))
    have hner0_1_r0_3 := Lib.hid (show br0_1 ≠ br0_3 from fun e => hI.apart 1 3 _ _ 4 6 (by omega) rfl rfl rfl rfl rfl rfl rfl rfl (by rw [hvr0_1, hvr0_3, e]))
    have hner0_2_r0_3 := Lib.hid (show br0_2 ≠ br0_3 from fun e => hI.apart 2 3 _ _ 5 6 (by omega) rfl rfl rfl rfl rfl rfl rfl rfl (by rw [hvr0_2, hvr0_3, e]))
    have ha := hI.act [(3, ptrTo br0_0), (4, ptrTo br0_1), (5, ptrTo br0_2), (6, ptrTo br0_3)] (by simp [hvr0_0, hvr0_1, hvr0_2, hvr0_3]) (by kernel_rfl)
    clear hI hvr0_0 hvr0_1 hvr0_2 hvr0_3
    subst ha
    simp only [List.foldl_cons, List.foldl_nil, List.setIfInBounds_toArray, List.set_cons_zero, List.set_cons_succ]
    have hger0_0 := Lib.hid (Nat.le_trans HU.out.size hnr0_0)
    have hger0_1 := Lib.hid (Nat.le_trans HU.out.size hnr0_1)
    have hger0_2 := Lib.hid (Nat.le_trans HU.out.size hnr0_2)
    have hger0_3 := Lib.hid (Nat.le_trans HU.out.size hnr0_3)
    have Bxr0y0 := Lib.hid hbr0_0
    have Bxr0y1 := Lib.hid hbr0_1
    have Bxr0y2 := Lib.hid hbr0_2
    have Bxr0y3 := Lib.hid hbr0_3
    have HU0 := Lib.hid (HU.out.trans hupd)
    clear hupd
    refine wpOps_nil ?_
    refine hK0 _ _ ?_
    clear hK0
    refine wp_seq_k fun K1 hK1 => ?_
    refine wp_region_q #[true, true, true, true, true, true, true, true, true, true, true, true, false] ([.val (.pointer (some ⟨br0_0, 0 + 0, none⟩)), .val (.agg (zr0_0.extract (0 + 0) (0 + 0 + 16))), .val (.pointer (some ⟨br0_1, 0 + 0, none⟩)), .val (.agg (zr0_1.extract (0 + 0) (0 + 0 + 16))), .like (IsC 16 RN [x1 * x2]), .val (.pointer (some ⟨br0_0, 0 + 16, none⟩)), .val (.agg (zr0_0.extract (0 + 16) (0 + 16 + 16))), .val (.pointer (some ⟨br0_1, 0 + 16, none⟩)), .val (.agg (zr0_1.extract (0 + 16) (0 + 16 + 16))), .like (IsC 16 RN [z1 * z2]), .like (IsC 16 RN [(x1 * x2) - (z1 * z2)]), .blk ptrTo 45 (Ch 16 RN [0]), .val undef] : List SQ) (by kernel_rfl) (by kernel_rfl) (by kernel_rfl) ?_ ?_
    · intro i o listed an wn ho hls hst hun hdep hI K' hK'
      have hi : i = 0 ∨ i = 1 ∨ i = 2 ∨ i = 3 ∨ i = 4 ∨ i = 5 ∨ i = 6 ∨ i = 7 ∨ i = 8 ∨ i = 9 ∨ i = 10 ∨ i = 11 ∨ False := slot_cases (l := [0, 1, 2, 3, 4, 5, 6, 7, 8, 9, 10, 11]) rfl ho hst
      rcases hi with rfl | rfl | rfl | rfl | rfl | rfl | rfl | rfl | rfl | rfl | rfl | rfl | hi
      · obtain rfl := Option.some.inj ho
        have hvp : an.eval (.tmp 3) = ptrTo br0_0 := hI.oldQ (by kernel_rfl) rfl
        exact hI.pureQ (by kernel_rfl) hls rfl rfl rfl (.pointer (some ⟨br0_0, 0 + 0, none⟩)) (run_fieldQ (g := br0_0) (off := 0) (k := 0) rfl hvp Tryd.underlying80 rfl (by rfl) szN wn) (.val (.pointer (some ⟨br0_0, 0 + 0, none⟩))) rfl rfl rfl hK'
      · obtain rfl := Option.some.inj ho
        obtain ⟨vp, hvp, hsp⟩ := hI.haveQ 0 _ 9 (.val (.pointer (some ⟨br0_0, 0 + 0, none⟩))) rfl rfl rfl (hdep ⟨0, .data⟩ (by simp) rfl)
        obtain rfl := hsp
        exact hI.pureQ (by kernel_rfl) hls rfl rfl rfl (.agg (zr0_0.extract (0 + 0) (0 + 0 + 16))) (run_loadQ rfl (eval_of hvp) wn (hI.upd.blk (show Blk w1.drew br0_0 80 zr0_0 from Bxr0y0.out) (fun h => h)) Tryd.underlying45 rfl szN (by rw [hzr0_0.size]; exact Nat.le_of_ble_eq_true rfl)) (.val (.agg (zr0_0.extract (0 + 0) (0 + 0 + 16)))) rfl rfl rfl hK'
      · obtain rfl := Option.some.inj ho
        have hvp : an.eval (.tmp 4) = ptrTo br0_1 := hI.oldQ (by kernel_rfl) rfl
        exact hI.pureQ (by kernel_rfl) hls rfl rfl rfl (.pointer (some ⟨br0_1, 0 + 0, none⟩)) (run_fieldQ (g := br0_1) (off := 0) (k := 0) rfl hvp Tryd.underlying80 rfl (by rfl) szN wn) (.val (.pointer (some ⟨br0_1, 0 + 0, none⟩))) rfl rfl rfl hK'
      · obtain rfl := Option.some.inj ho
        obtain ⟨vp, hvp, hsp⟩ := hI.haveQ 2 _ 11 (.val (.pointer (some ⟨br0_1, 0 + 0, none⟩))) rfl rfl rfl (hdep ⟨2, .data⟩ (by simp) rfl)
        obtain rfl := hsp
        exact hI.pureQ (by kernel_rfl) hls rfl rfl rfl (.agg (zr0_1.extract (0 + 0) (0 + 0 + 16))) (run_loadQ rfl (eval_of hvp) wn (hI.upd.blk (show Blk w1.drew br0_1 80 zr0_1 from Bxr0y1.out) (fun h => h)) Tryd.underlying45 rfl szN (by rw [hzr0_1.size]; exact Nat.le_of_ble_eq_true rfl)) (.val (.agg (zr0_1.extract (0 + 0) (0 + 0 + 16)))) rfl rfl rfl hK'
      · obtain rfl := Option.some.inj ho
        obtain ⟨vp, hvp, hsp⟩ := hI.haveQ 1 _ 10 (.val (.agg (zr0_0.extract (0 + 0) (0 + 0 + 16)))) rfl rfl rfl (hdep ⟨1, .data⟩ (by simp) rfl)
        obtain rfl := hsp
        obtain ⟨vq, hvq, hsq⟩ := hI.haveQ 3 _ 12 (.val (.agg (zr0_1.extract (0 + 0) (0 + 0 + 16)))) rfl rfl rfl (hdep ⟨3, .data⟩ (by simp) rfl)
        obtain rfl := hsq
        exact hI.callQ (by kernel_rfl) hls rfl rfl rfl 58 #[.tmp 10, .tmp 12] _ rfl #[.agg (zr0_0.extract (0 + 0) (0 + 0 + 16)), .agg (zr0_1.extract (0 + 0) (0 + 0 + 16))] (by simp [eval_of hvp, eval_of hvq]) (run_enter Tryd.func58 (by kernel_rfl) (by kernel_rfl)) (.like (IsC 16 RN [x1 * x2])) rfl rfl ((rMulE (hzr0_0.at 0 (0 + 0) rfl rfl) (hzr0_1.at 0 (0 + 0) rfl rfl)).mono fun _ _ h => h.sq) hK'
      · obtain rfl := Option.some.inj ho
        have hvp : an.eval (.tmp 3) = ptrTo br0_0 := hI.oldQ (by kernel_rfl) rfl
        exact hI.pureQ (by kernel_rfl) hls rfl rfl rfl (.pointer (some ⟨br0_0, 0 + 16, none⟩)) (run_fieldQ (g := br0_0) (off := 0) (k := 16) rfl hvp Tryd.underlying80 rfl (by rfl) szN wn) (.val (.pointer (some ⟨br0_0, 0 + 16, none⟩))) rfl rfl rfl hK'
      · obtain rfl := Option.some.inj ho
        obtain ⟨vp, hvp, hsp⟩ := hI.haveQ 5 _ 14 (.val (.pointer (some ⟨br0_0, 0 + 16, none⟩))) rfl rfl rfl (hdep ⟨5, .data⟩ (by simp) rfl)
        obtain rfl := hsp
        exact hI.pureQ (by kernel_rfl) hls rfl rfl rfl (.agg (zr0_0.extract (0 + 16) (0 + 16 + 16))) (run_loadQ rfl (eval_of hvp) wn (hI.upd.blk (show Blk w1.drew br0_0 80 zr0_0 from Bxr0y0.out) (fun h => h)) Tryd.underlying45 rfl szN (by rw [hzr0_0.size]; exact Nat.le_of_ble_eq_true rfl)) (.val (.agg (zr0_0.extract (0 + 16) (0 + 16 + 16)))) rfl rfl rfl hK'
      · obtain rfl := Option.some.inj ho
        have hvp : an.eval (.tmp 4) = ptrTo br0_1 := hI.oldQ (by kernel_rfl) rfl
        exact hI.pureQ (by kernel_rfl) hls rfl rfl rfl (.pointer (some ⟨br0_1, 0 + 16, none⟩)) (run_fieldQ (g := br0_1) (off := 0) (k := 16) rfl hvp Tryd.underlying80 rfl (by rfl) szN wn) (.val (.pointer (some ⟨br0_1, 0 + 16, none⟩))) rfl rfl rfl hK'
      · obtain rfl := Option.some.inj ho
        obtain ⟨vp, hvp, hsp⟩ := hI.haveQ 7 _ 16 (.val (.pointer (some ⟨br0_1, 0 + 16, none⟩))) rfl rfl rfl (hdep ⟨7, .data⟩ (by simp) rfl)
        obtain rfl := hsp
        exact hI.pureQ (by kernel_rfl) hls rfl rfl rfl (.agg (zr0_1.extract (0 + 16) (0 + 16 + 16))) (run_loadQ rfl (eval_of hvp) wn (hI.upd.blk (show Blk w1.drew br0_1 80 zr0_1 from Bxr0y1.out) (fun h => h)) Tryd.underlying45 rfl szN (by rw [hzr0_1.size]; exact Nat.le_of_ble_eq_true rfl)) (.val (.agg (zr0_1.extract (0 + 16) (0 + 16 + 16)))) rfl rfl rfl hK'
      · obtain rfl := Option.some.inj ho
        obtain ⟨vp, hvp, hsp⟩ := hI.haveQ 6 _ 15 (.val (.agg (zr0_0.extract (0 + 16) (0 + 16 + 16)))) rfl rfl rfl (hdep ⟨6, .data⟩ (by simp) rfl)
        obtain rfl := hsp
        obtain ⟨vq, hvq, hsq⟩ := hI.haveQ 8 _ 17 (.val (.agg (zr0_1.extract (0 + 16) (0 + 16 + 16)))) rfl rfl rfl (hdep ⟨8, .data⟩ (by simp) rfl)
        obtain rfl := hsq
        exact hI.callQ (by kernel_rfl) hls rfl rfl rfl 58 #[.tmp 15, .tmp 17] _ rfl #[.agg (zr0_0.extract (0 + 16) (0 + 16 + 16)), .agg (zr0_1.extract (0 + 16) (0 + 16 + 16))] (by simp [eval_of hvp, eval_of hvq]) (run_enter Tryd.func58 (by kernel_rfl) (by kernel_rfl)) (.like (IsC 16 RN [z1 * z2])) rfl rfl ((rMulE (hzr0_0.at 1 (0 + 16) rfl rfl) (hzr0_1.at 1 (0 + 16) rfl rfl)).mono fun _ _ h => h.sq) hK'
      · obtain rfl := Option.some.inj ho
        obtain ⟨vp, hvp, ap, rfl, hCp⟩ := hI.haveQ 4 _ 13 (.like (IsC 16 RN [x1 * x2])) rfl rfl rfl (hdep ⟨4, .data⟩ (by simp) rfl)
        obtain ⟨vq, hvq, aq, rfl, hCq⟩ := hI.haveQ 9 _ 18 (.like (IsC 16 RN [z1 * z2])) rfl rfl rfl (hdep ⟨9, .data⟩ (by simp) rfl)
        exact hI.callQ (by kernel_rfl) hls rfl rfl rfl 66 #[.tmp 13, .tmp 18] _ rfl #[.agg ap, .agg aq] (by simp [eval_of hvp, eval_of hvq]) (run_enter Tryd.func66 (by kernel_rfl) (by kernel_rfl)) (.like (IsC 16 RN [(x1 * x2) - (z1 * z2)])) rfl rfl ((rSubE hCp hCq).mono fun _ _ h => h.sq) hK'
      · obtain rfl := Option.some.inj ho
        exact hI.newQ (by kernel_rfl) hls (Nat.le_refl _) (newsQ_spec (l := [11]) (by kernel_rfl) ⟨⟨_, _, rfl⟩, trivial⟩) rfl rfl rfl 45 zeroN _ (run_allocQ rfl zN_run wn) rfl zN_ch hK'
      · exact hi.elim
    · intro fuel an w2 hf hI
      obtain ⟨vr1_0, hvr1_0, hsr1_0⟩ := hI.haveQ 0 _ 9 (.val (.pointer (some ⟨br0_0, 0 + 0, none⟩))) rfl rfl rfl rfl
      obtain rfl := hsr1_0
      obtain ⟨vr1_1, hvr1_1, hsr1_1⟩ := hI.haveQ 1 _ 10 (.val (.agg (zr0_0.extract (0 + 0) (0 + 0 + 16)))) rfl rfl rfl rfl
      obtain rfl := hsr1_1
      obtain ⟨vr1_2, hvr1_2, hsr1_2⟩ := hI.haveQ 2 _ 11 (.val (.pointer (some ⟨br0_1, 0 + 0, none⟩))) rfl rfl rfl rfl
      obtain rfl := hsr1_2
      obtain ⟨vr1_3, hvr1_3, hsr1_3⟩ := hI.haveQ 3 _ 12 (.val (.agg (zr0_1.extract (0 + 0) (0 + 0 + 16)))) rfl rfl rfl rfl
      obtain rfl := hsr1_3
      obtain ⟨vr1_4, hvr1_4, ar1_4, rfl, hCr1_4⟩ := hI.haveQ 4 _ 13 (.like (IsC 16 RN [x1 * x2])) rfl rfl rfl rfl
      obtain ⟨vr1_5, hvr1_5, hsr1_5⟩ := hI.haveQ 5 _ 14 (.val (.pointer (some ⟨br0_0, 0 + 16, none⟩))) rfl rfl rfl rfl
      obtain rfl := hsr1_5
      obtain ⟨vr1_6, hvr1_6, hsr1_6⟩ := hI.haveQ 6 _ 15 (.val (.agg (zr0_0.extract (0 + 16) (0 + 16 + 16)))) rfl rfl rfl rfl
      obtain rfl := hsr1_6
      obtain ⟨vr1_7, hvr1_7, hsr1_7⟩ := hI.haveQ 7 _ 16 (.val (.pointer (some ⟨br0_1, 0 + 16, none⟩))) rfl rfl rfl rfl
      obtain rfl := hsr1_7
      obtain ⟨vr1_8, hvr1_8, hsr1_8⟩ := hI.haveQ 8 _ 17 (.val (.agg (zr0_1.extract (0 + 16) (0 + 16 + 16)))) rfl rfl rfl rfl
      obtain rfl := hsr1_8
      obtain ⟨vr1_9, hvr1_9, ar1_9, rfl, hCr1_9⟩ := hI.haveQ 9 _ 18 (.like (IsC 16 RN [z1 * z2])) rfl rfl rfl rfl
      obtain ⟨vr1_10, hvr1_10, ar1_10, rfl, hCr1_10⟩ := hI.haveQ 10 _ 19 (.like (IsC 16 RN [(x1 * x2) - (z1 * z2)])) rfl rfl rfl rfl
      obtain ⟨vr1_11, hvr1_11, br1_11, zr1_11, rfl, hnr1_11, hbr1_11, hzr1_11⟩ := hI.haveQ 11 _ 7 (.blk ptrTo 45 (Ch 16 RN [0])) rfl rfl rfl rfl
      have hupd := hI.upd
      have ha := hI.act [(9, .pointer (some ⟨br0_0, 0 + 0, none⟩)), (10, .agg (zr0_0.extract (0 + 0) (0 + 0 + 16))), (11, .pointer (some ⟨br0_1, 0 + 0, none⟩)), (12, .agg (zr0_1.extract (0 + 0) (0 + 0 + 16))), (13, .agg ar1_4), (14, .pointer (some ⟨br0_0, 0 + 16, none⟩)), (15, .agg (zr0_0.extract (0 + 16) (0 + 16 + 16))), (16, .pointer (some ⟨br0_1, 0 + 16, none⟩)), (17, .agg (zr0_1.extract (0 + 16) (0 + 16 + 16))), (18, .agg ar1_9), (19, .agg ar1_10), (7, ptrTo br1_11)] (by simp [hvr1_0, hvr1_1, hvr1_2, hvr1_3, hvr1_4, hvr1_5, hvr1_6, hvr1_7, hvr1_8, hvr1_9, hvr1_10, hvr1_11]) (by kernel_rfl)
      clear hI hvr1_0 hvr1_1 hvr1_2 hvr1_3 hvr1_4 hvr1_5 hvr1_6 hvr1_7 hvr1_8 hvr1_9 hvr1_10 hvr1_11
      subst ha
      simp only [List.foldl_cons, List.foldl_nil, List.setIfInBounds_toArray, List.set_cons_zero, List.set_cons_succ]
      have hner1_11_Bxr0y0 := Lib.hid (show br1_11 ≠ br0_0 from Nat.ne_of_gt (Nat.lt_of_lt_of_le Bxr0y0.out.lt hnr1_11))
      have hner1_11_Bxr0y1 := Lib.hid (show br1_11 ≠ br0_1 from Nat.ne_of_gt (Nat.lt_of_lt_of_le Bxr0y1.out.lt hnr1_11))
      have hner1_11_Bxr0y2 := Lib.hid (show br1_11 ≠ br0_2 from Nat.ne_of_gt (Nat.lt_of_lt_of_le Bxr0y2.out.lt hnr1_11))
      have hner1_11_Bxr0y3 := Lib.hid (show br1_11 ≠ br0_3 from Nat.ne_of_gt (Nat.lt_of_lt_of_le Bxr0y3.out.lt hnr1_11))
      have hger1_11 := Lib.hid (Nat.le_trans HU0.out.size hnr1_11)
      have Bxr0y0_1 := Lib.hid (hupd.blk (show Blk w1.drew br0_0 80 zr0_0 from Bxr0y0.out) (fun h => h))
      have Bxr0y1_1 := Lib.hid (hupd.blk (show Blk w1.drew br0_1 80 zr0_1 from Bxr0y1.out) (fun h => h))
      have Bxr0y2_1 := Lib.hid (hupd.blk (show Blk w1.drew br0_2 45 zr0_2 from Bxr0y2.out) (fun h => h))
      have Bxr0y3_1 := Lib.hid (hupd.blk (show Blk w1.drew br0_3 80 zr0_3 from Bxr0y3.out) (fun h => h))
      have Bxr1y11 := Lib.hid hbr1_11
      have HU1 := Lib.hid (HU0.out.drew.trans hupd)
      clear hupd
      have hf0 : left #[true, true, true, true, true, true, true, true, true, true, true, true, false] 13 = 1 := by kernel_rfl
      have hf1 : left #[true, true, true, true, true, true, true, true, true, true, true, true, false] 13 ≤ fuel := hf
      obtain ⟨fu, rfl⟩ : ∃ fu, fuel = fu + 1 := ⟨fuel - 1, by omega⟩
      clear hf hf0 hf1
      refine wpAny_storeQ 12 rfl (by kernel_rfl) rfl rfl 45 (.tmp 7) (.tmp 19) rfl br1_11 0 16 rfl ar1_10 rfl 45 zr1_11 Bxr1y11.out szN hCr1_10.size (by rw [hzr1_11.size]; exact Nat.le_of_ble_eq_true rfl) hCr1_10.one' ?_
      intro ws1_0 hs1_0 hus1_0
      rw [splice_all _ _ 16 hzr1_11.size hCr1_10.size] at hs1_0
      have Bxr0y0_s1_0 := Lib.hid (hus1_0.blk Bxr0y0_1.out (fun e => hner1_11_Bxr0y0.out e.symm))
      have Bxr0y1_s1_0 := Lib.hid (hus1_0.blk Bxr0y1_1.out (fun e => hner1_11_Bxr0y1.out e.symm))
      have Bxr0y2_s1_0 := Lib.hid (hus1_0.blk Bxr0y2_1.out (fun e => hner1_11_Bxr0y2.out e.symm))
      have Bxr0y3_s1_0 := Lib.hid (hus1_0.blk Bxr0y3_1.out (fun e => hner1_11_Bxr0y3.out e.symm))
      have Bxr1y11_s1_0 := Lib.hid hs1_0
      have HU1_0 := Lib.hid (HU1.out.step hus1_0 (fun i hi h => absurd hi (Nat.not_lt.2 (h.symm ▸ hger1_11.out))))
      clear hs1_0 hus1_0
      refine wpAny_done (by kernel_rfl) ?_ _
      refine hK1 _ _ ?_
      clear hK1
      refine wp_seq_k fun K2 hK2 => ?_
      refine wp_region_q #[true, true, true, true, true, true, true, true, true, true, true, true, false] ([.val (.pointer (some ⟨br0_0, 0 + 0, none⟩)), .val (.agg (zr0_0.extract (0 + 0) (0 + 0 + 16))), .val (.pointer (some ⟨br0_1, 0 + 16, none⟩)), .val (.agg (zr0_1.extract (0 + 16) (0 + 16 + 16))), .like (IsC 16 RN [x1 * z2]), .val (.pointer (some ⟨br0_0, 0 + 16, none⟩)), .val (.agg (zr0_0.extract (0 + 16) (0 + 16 + 16))), .val (.pointer (some ⟨br0_1, 0 + 0, none⟩)), .val (.agg (zr0_1.extract (0 + 0) (0 + 0 + 16))), .like (IsC 16 RN [z1 * x2]), .like (IsC 16 RN [(x1 * z2) - (z1 * x2)]), .blk ptrTo 45 (Ch 16 RN [0]), .val undef] : List SQ) (by kernel_rfl) (by kernel_rfl) (by kernel_rfl) ?_ ?_
      · intro i o listed an wn ho hls hst hun hdep hI K' hK'
        have hi : i = 0 ∨ i = 1 ∨ i = 2 ∨ i = 3 ∨ i = 4 ∨ i = 5 ∨ i = 6 ∨ i = 7 ∨ i = 8 ∨ i = 9 ∨ i = 10 ∨ i = 11 ∨ False := slot_cases (l := [0, 1, 2, 3, 4, 5, 6, 7, 8, 9, 10, 11]) rfl ho hst
        rcases hi with rfl | rfl | rfl | rfl | rfl | rfl | rfl | rfl | rfl | rfl | rfl | rfl | hi
        · obtain rfl := Option.some.inj ho
          have hvp : an.eval (.tmp 3) = ptrTo br0_0 := hI.oldQ (by kernel_rfl) rfl
          exact hI.pureQ (by kernel_rfl) hls rfl rfl rfl (.pointer (some ⟨br0_0, 0 + 0, none⟩)) (run_fieldQ (g := br0_0) (off := 0) (k := 0) rfl hvp Tryd.underlying80 rfl (by rfl) szN wn) (.val (.pointer (some ⟨br0_0, 0 + 0, none⟩))) rfl rfl rfl hK'
        · obtain rfl := Option.some.inj ho
          obtain ⟨vp, hvp, hsp⟩ := hI.haveQ 0 _ 20 (.val (.pointer (some ⟨br0_0, 0 + 0, none⟩))) rfl rfl rfl (hdep ⟨0, .data⟩ (by simp) rfl)
          obtain rfl := hsp
          exact hI.pureQ (by kernel_rfl) hls rfl rfl rfl (.agg (zr0_0.extract (0 + 0) (0 + 0 + 16))) (run_loadQ rfl (eval_of hvp) wn (hI.upd.blk (show Blk ws1_0.drew br0_0 80 zr0_0 from Bxr0y0_s1_0.out) (fun h => h)) Tryd.underlying45 rfl szN (by rw [hzr0_0.size]; exact Nat.le_of_ble_eq_true rfl)) (.val (.agg (zr0_0.extract (0 + 0) (0 + 0 + 16)))) rfl rfl rfl hK'
        · obtain rfl := Option.some.inj ho
          have hvp : an.eval (.tmp 4) = ptrTo br0_1 := hI.oldQ (by kernel_rfl) rfl
          exact hI.pureQ (by kernel_rfl) hls rfl rfl rfl (.pointer (some ⟨br0_1, 0 + 16, none⟩)) (run_fieldQ (g := br0_1) (off := 0) (k := 16) rfl hvp Tryd.underlying80 rfl (by rfl) szN wn) (.val (.pointer (some ⟨br0_1, 0 + 16, none⟩))) rfl rfl rfl hK'
        · obtain rfl := Option.some.inj ho
          obtain ⟨vp, hvp, hsp⟩ := hI.haveQ 2 _ 22 (.val (.pointer (some ⟨br0_1, 0 + 16, none⟩))) rfl rfl rfl (hdep ⟨2, .data⟩ (by simp) rfl)
          obtain rfl := hsp
          exact hI.pureQ (by kernel_rfl) hls rfl rfl rfl (.agg (zr0_1.extract (0 + 16) (0 + 16 + 16))) (run_loadQ rfl (eval_of hvp) wn (hI.upd.blk (show Blk ws1_0.drew br0_1 80 zr0_1 from Bxr0y1_s1_0.out) (fun h => h)) Tryd.underlying45 rfl szN (by rw [hzr0_1.size]; exact Nat.le_of_ble_eq_true rfl)) (.val (.agg (zr0_1.extract (0 + 16) (0 + 16 + 16)))) rfl rfl rfl hK'
        · obtain rfl := Option.some.inj ho
          obtain ⟨vp, hvp, hsp⟩ := hI.haveQ 1 _ 21 (.val (.agg (zr0_0.extract (0 + 0) (0 + 0 + 16)))) rfl rfl rfl (hdep ⟨1, .data⟩ (by simp) rfl)
          obtain rfl := hsp
          obtain ⟨vq, hvq, hsq⟩ := hI.haveQ 3 _ 23 (.val (.agg (zr0_1.extract (0 + 16) (0 + 16 + 16)))) rfl rfl rfl (hdep ⟨3, .data⟩ (by simp) rfl)
          obtain rfl := hsq
          exact hI.callQ (by kernel_rfl) hls rfl rfl rfl 58 #[.tmp 21, .tmp 23] _ rfl #[.agg (zr0_0.extract (0 + 0) (0 + 0 + 16)), .agg (zr0_1.extract (0 + 16) (0 + 16 + 16))] (by simp [eval_of hvp, eval_of hvq]) (run_enter Tryd.func58 (by kernel_rfl) (by kernel_rfl)) (.like (IsC 16 RN [x1 * z2])) rfl rfl ((rMulE (hzr0_0.at 0 (0 + 0) rfl rfl) (hzr0_1.at 1 (0 + 16) rfl rfl)).mono fun _ _ h => h.sq) hK'
        · obtain rfl := Option.some.inj ho
          have hvp : an.eval (.tmp 3) = ptrTo br0_0 := hI.oldQ (by kernel_rfl) rfl
          exact hI.pureQ (by kernel_rfl) hls rfl rfl rfl (.pointer (some ⟨br0_0, 0 + 16, none⟩)) (run_fieldQ (g := br0_0) (off := 0) (k := 16) rfl hvp Tryd.underlying80 rfl (by rfl) szN wn) (.val (.pointer (some ⟨br0_0, 0 + 16, none⟩))) rfl rfl rfl hK'
        · obtain rfl := Option.some.inj ho
          obtain ⟨vp, hvp, hsp⟩ := hI.haveQ 5 _ 25 (.val (.pointer (some ⟨br0_0, 0 + 16, none⟩))) rfl rfl rfl (hdep ⟨5, .data⟩ (by simp) rfl)
          obtain rfl := hsp
          exact hI.pureQ (by kernel_rfl) hls rfl rfl rfl (.agg (zr0_0.extract (0 + 16) (0 + 16 + 16))) (run_loadQ rfl (eval_of hvp) wn (hI.upd.blk (show Blk ws1_0.drew br0_0 80 zr0_0 from Bxr0y0_s1_0.out) (fun h => h)) Tryd.underlying45 rfl szN (by rw [hzr0_0.size]; exact Nat.le_of_ble_eq_true rfl)) (.val (.agg (zr0_0.extract (0 + 16) (0 + 16 + 16)))) rfl rfl rfl hK'
        · obtain rfl := Option.some.inj ho
          have hvp : an.eval (.tmp 4) = ptrTo br0_1 := hI.oldQ (by kernel_rfl) rfl
          exact hI.pureQ (by kernel_rfl) hls rfl rfl rfl (.pointer (some ⟨br0_1, 0 + 0, none⟩)) (run_fieldQ (g := br0_1) (off := 0) (k := 0) rfl hvp Tryd.underlying80 rfl (by rfl) szN wn) (.val (.pointer (some ⟨br0_1, 0 + 0, none⟩))) rfl rfl rfl hK'
        · obtain rfl := Option.some.inj ho
          obtain ⟨vp, hvp, hsp⟩ := hI.haveQ 7 _ 27 (.val (.pointer (some ⟨br0_1, 0 + 0, none⟩))) rfl rfl rfl (hdep ⟨7, .data⟩ (by simp) rfl)
          obtain rfl := hsp
          exact hI.pureQ (by kernel_rfl) hls rfl rfl rfl (.agg (zr0_1.extract (0 + 0) (0 + 0 + 16))) (run_loadQ rfl (eval_of hvp) wn (hI.upd.blk (show Blk ws1_0.drew br0_1 80 zr0_1 from Bxr0y1_s1_0.out) (fun h => h)) Tryd.underlying45 rfl szN (by rw [hzr0_1.size]; exact Nat.le_of_ble_eq_true rfl)) (.val (.agg (zr0_1.extract (0 + 0) (0 + 0 + 16)))) rfl rfl rfl hK'
        · obtain rfl := Option.some.inj ho
          obtain ⟨vp, hvp, hsp⟩ := hI.haveQ 6 _ 26 (.val (.agg (zr0_0.extract (0 + 16) (0 + 16 + 16)))) rfl rfl rfl (hdep ⟨6, .data⟩ (by simp) rfl)
          obtain rfl := hsp
          obtain ⟨vq, hvq, hsq⟩ := hI.haveQ 8 _ 28 (.val (.agg (zr0_1.extract (0 + 0) (0 + 0 + 16)))) rfl rfl rfl (hdep ⟨8, .data⟩ (by simp) rfl)
          obtain rfl := hsq
          exact hI.callQ (by kernel_rfl) hls rfl rfl rfl 58 #[.tmp 26, .tmp 28] _ rfl #[.agg (zr0_0.extract (0 + 16) (0 + 16 + 16)), .agg (zr0_1.extract (0 + 0) (0 + 0 + 16))] (by simp [eval_of hvp, eval_of hvq]) (run_enter Tryd.func58 (by kernel_rfl) (by kernel_rfl)) (.like (IsC 16 RN [z1 * x2])) rfl rfl ((rMulE (hzr0_0.at 1 (0 + 16) rfl rfl) (hzr0_1.at 0 (0 + 0) rfl rfl)).mono fun _ _ h => h.sq) hK'
        · obtain rfl := Option.some.inj ho
          obtain ⟨vp, hvp, ap, rfl, hCp⟩ := hI.haveQ 4 _ 24 (.like (IsC 16 RN [x1 * z2])) rfl rfl rfl (hdep ⟨4, .data⟩ (by simp) rfl)
          obtain ⟨vq, hvq, aq, rfl, hCq⟩ := hI.haveQ 9 _ 29 (.like (IsC 16 RN [z1 * x2])) rfl rfl rfl (hdep ⟨9, .data⟩ (by simp) rfl)
          exact hI.callQ (by kernel_rfl) hls rfl rfl rfl 66 #[.tmp 24, .tmp 29] _ rfl #[.agg ap, .agg aq] (by simp [eval_of hvp, eval_of hvq]) (run_enter Tryd.func66 (by kernel_rfl) (by kernel_rfl)) (.like (IsC 16 RN [(x1 * z2) - (z1 * x2)])) rfl rfl ((rSubE hCp hCq).mono fun _ _ h => h.sq) hK'
        · obtain rfl := Option.some.inj ho
          exact hI.newQ (by kernel_rfl) hls (Nat.le_refl _) (newsQ_spec (l := [11]) (by kernel_rfl) ⟨⟨_, _, rfl⟩, trivial⟩) rfl rfl rfl 45 zeroN _ (run_allocQ rfl zN_run wn) rfl zN_ch hK'
        · exact hi.elim
      · intro fuel an w3 hf hI
        obtain ⟨vr2_0, hvr2_0, hsr2_0⟩ := hI.haveQ 0 _ 20 (.val (.pointer (some ⟨br0_0, 0 + 0, none⟩))) rfl rfl rfl rfl
        obtain rfl := hsr2_0
        obtain ⟨vr2_1, hvr2_1, hsr2_1⟩ := hI.haveQ 1 _ 21 (.val (.agg (zr0_0.extract (0 + 0) (0 + 0 + 16)))) rfl rfl rfl rfl
        obtain rfl := hsr2_1
        obtain ⟨vr2_2, hvr2_2, hsr2_2⟩ := hI.haveQ 2 _ 22 (.val (.pointer (some ⟨br0_1, 0 + 16, none⟩))) rfl rfl rfl rfl
        obtain rfl := hsr2_2
        obtain ⟨vr2_3, hvr2_3, hsr2_3⟩ := hI.haveQ 3 _ 23 (.val (.agg (zr0_1.extract (0 + 16) (0 + 16 + 16)))) rfl rfl rfl rfl
        obtain rfl := hsr2_3
        obtain ⟨vr2_4, hvr2_4, ar2_4, rfl, hCr2_4⟩ := hI.haveQ 4 _ 24 (.like (IsC 16 RN [x1 * z2])) rfl rfl rfl rfl
        obtain ⟨vr2_5, hvr2_5, hsr2_5⟩ := hI.haveQ 5 _ 25 (.val (.pointer (some ⟨br0_0, 0 + 16, none⟩))) rfl rfl rfl rfl
        obtain rfl := hsr2_5
        obtain ⟨vr2_6, hvr2_6, hsr2_6⟩ := hI.haveQ 6 _ 26 (.val (.agg (zr0_0.extract (0 + 16) (0 + 16 + 16)))) rfl rfl rfl rfl
        obtain rfl := hsr2_6
        obtain ⟨vr2_7, hvr2_7, hsr2_7⟩ := hI.haveQ 7 _ 27 (.val (.pointer (some ⟨br0_1, 0 + 0, none⟩))) rfl rfl rfl rfl
        obtain rfl := hsr2_7
        obtain ⟨vr2_8, hvr2_8, hsr2_8⟩ := hI.haveQ 8 _ 28 (.val (.agg (zr0_1.extract (0 + 0) (0 + 0 + 16)))) rfl rfl rfl rfl
        obtain rfl := hsr2_8
        obtain ⟨vr2_9, hvr2_9, ar2_9, rfl, hCr2_9⟩ := hI.haveQ 9 _ 29 (.like (IsC 16 RN [z1 * x2])) rfl rfl rfl rfl
        obtain ⟨vr2_10, hvr2_10, ar2_10, rfl, hCr2_10⟩ := hI.haveQ 10 _ 30 (.like (IsC 16 RN [(x1 * z2) - (z1 * x2)])) rfl rfl rfl rfl
        obtain ⟨vr2_11, hvr2_11, br2_11, zr2_11, rfl, hnr2_11, hbr2_11, hzr2_11⟩ := hI.haveQ 11 _ 8 (.blk ptrTo 45 (Ch 16 RN [0])) rfl rfl rfl rfl
        have hupd := hI.upd
        have ha := hI.act [(20, .pointer (some ⟨br0_0, 0 + 0, none⟩)), (21, .agg (zr0_0.extract (0 + 0) (0 + 0 + 16))), (22, .pointer (some ⟨br0_1, 0 + 16, none⟩)), (23, .agg (zr0_1.extract (0 + 16) (0 + 16 + 16))), (24, .agg ar2_4), (25, .pointer (some ⟨br0_0, 0 + 16, none⟩)), (26, .agg (zr0_0.extract (0 + 16) (0 + 16 + 16))), (27, .pointer (some ⟨br0_1, 0 + 0, none⟩)), (28, .agg (zr0_1.extract (0 + 0) (0 + 0 + 16))), (29, .agg ar2_9), (30, .agg ar2_10), (8, ptrTo br2_11)] (by simp [hvr2_0, hvr2_1, hvr2_2, hvr2_3, hvr2_4, hvr2_5, hvr2_6, hvr2_7, hvr2_8, hvr2_9, hvr2_10, hvr2_11]) (by kernel_rfl)
        clear hI hvr2_0 hvr2_1 hvr2_2 hvr2_3 hvr2_4 hvr2_5 hvr2_6 hvr2_7 hvr2_8 hvr2_9 hvr2_10 hvr2_11
        subst ha
        simp only [List.foldl_cons, List.foldl_nil, List.setIfInBounds_toArray, List.set_cons_zero, List.set_cons_succ]
        have hner2_11_Bxr0y0_s1_0 := Lib.hid (show br2_11 ≠ br0_0 from Nat.ne_of_gt (Nat.lt_of_lt_of_le Bxr0y0_s1_0.out.lt hnr2_11))
        have hner2_11_Bxr0y1_s1_0 := Lib.hid (show br2_11 ≠ br0_1 from Nat.ne_of_gt (Nat.lt_of_lt_of_le Bxr0y1_s1_0.out.lt hnr2_11))
        have hner2_11_Bxr0y2_s1_0 := Lib.hid (show br2_11 ≠ br0_2 from Nat.ne_of_gt (Nat.lt_of_lt_of_le Bxr0y2_s1_0.out.lt hnr2_11))
        have hner2_11_Bxr0y3_s1_0 := Lib.hid (show br2_11 ≠ br0_3 from Nat.ne_of_gt (Nat.lt_of_lt_of_le Bxr0y3_s1_0.out.lt hnr2_11))
        have hner2_11_Bxr1y11_s1_0 := Lib.hid (show br2_11 ≠ br1_11 from Nat.ne_of_gt (Nat.lt_of_lt_of_le Bxr1y11_s1_0.out.lt hnr2_11))
        have hger2_11 := Lib.hid (Nat.le_trans HU1_0.out.size hnr2_11)
        have Bxr0y0_2 := Lib.hid (hupd.blk (show Blk ws1_0.drew br0_0 80 zr0_0 from Bxr0y0_s1_0.out) (fun h => h))
        have Bxr0y1_2 := Lib.hid (hupd.blk (show Blk ws1_0.drew br0_1 80 zr0_1 from Bxr0y1_s1_0.out) (fun h => h))
        have Bxr0y2_2 := Lib.hid (hupd.blk (show Blk ws1_0.drew br0_2 45 zr0_2 from Bxr0y2_s1_0.out) (fun h => h))
        have Bxr0y3_2 := Lib.hid (hupd.blk (show Blk ws1_0.drew br0_3 80 zr0_3 from Bxr0y3_s1_0.out) (fun h => h))
        have Bxr1y11_2 := Lib.hid (hupd.blk (show Blk ws1_0.drew br1_11 45 ar1_10 from Bxr1y11_s1_0.out) (fun h => h))
        have Bxr2y11 := Lib.hid hbr2_11
        have HU2 := Lib.hid (HU1_0.out.drew.trans hupd)
        clear hupd
        have hf0 : left #[true, true, true, true, true, true, true, true, true, true, true, true, false] 13 = 1 := by kernel_rfl
        have hf1 : left #[true, true, true, true, true, true, true, true, true, true, true, true, false] 13 ≤ fuel := hf
        obtain ⟨fu, rfl⟩ : ∃ fu, fuel = fu + 1 := ⟨fuel - 1, by omega⟩
        clear hf hf0 hf1
        refine wpAny_storeQ 12 rfl (by kernel_rfl) rfl rfl 45 (.tmp 8) (.tmp 30) rfl br2_11 0 16 rfl ar2_10 rfl 45 zr2_11 Bxr2y11.out szN hCr2_10.size (by rw [hzr2_11.size]; exact Nat.le_of_ble_eq_true rfl) hCr2_10.one' ?_
        intro ws2_0 hs2_0 hus2_0
        rw [splice_all _ _ 16 hzr2_11.size hCr2_10.size] at hs2_0
        have Bxr0y0_s2_0 := Lib.hid (hus2_0.blk Bxr0y0_2.out (fun e => hner2_11_Bxr0y0_s1_0.out e.symm))
        have Bxr0y1_s2_0 := Lib.hid (hus2_0.blk Bxr0y1_2.out (fun e => hner2_11_Bxr0y1_s1_0.out e.symm))
        have Bxr0y2_s2_0 := Lib.hid (hus2_0.blk Bxr0y2_2.out (fun e => hner2_11_Bxr0y2_s1_0.out e.symm))
        have Bxr0y3_s2_0 := Lib.hid (hus2_0.blk Bxr0y3_2.out (fun e => hner2_11_Bxr0y3_s1_0.out e.symm))
        have Bxr1y11_s2_0 := Lib.hid (hus2_0.blk Bxr1y11_2.out (fun e => hner2_11_Bxr1y11_s1_0.out e.symm))
        have Bxr2y11_s2_0 := Lib.hid hs2_0
        have HU2_0 := Lib.hid (HU2.out.step hus2_0 (fun i hi h => absurd hi (Nat.not_lt.2 (h.symm ▸ hger2_11.out))))
        clear hs2_0 hus2_0
        refine wpAny_done (by kernel_rfl) ?_ _
        refine hK2 _ _ ?_
        clear hK2
        refine wp_seq_k fun K3 hK3 => ?_
        refine wp_region_q #[true, true, true, true, true, true, true, true, true, false] ([.val (.agg ar1_10), .val (.agg ar1_10), .like (IsC 16 RN [((x1 * x2) - (z1 * z2)) * ((x1 * x2) - (z1 * z2))]), .val (.agg zr0_2), .val (.agg ar2_10), .val (.agg ar2_10), .like (IsC 16 RN [((x1 * z2) - (z1 * x2)) * ((x1 * z2) - (z1 * x2))]), .like (IsC 16 RN [u * (((x1 * z2) - (z1 * x2)) * ((x1 * z2) - (z1 * x2)))]), .like (IsC 16 RN [((x1 * x2) - (z1 * z2)) * ((x1 * x2) - (z1 * z2)), u * (((x1 * z2) - (z1 * x2)) * ((x1 * z2) - (z1 * x2)))]), .val undef] : List SQ) (by kernel_rfl) (by kernel_rfl) (by kernel_rfl) ?_ ?_
        · intro i o listed an wn ho hls hst hun hdep hI K' hK'
          have hi : i = 0 ∨ i = 1 ∨ i = 2 ∨ i = 3 ∨ i = 4 ∨ i = 5 ∨ i = 6 ∨ i = 7 ∨ i = 8 ∨ False := slot_cases (l := [0, 1, 2, 3, 4, 5, 6, 7, 8]) rfl ho hst
          rcases hi with rfl | rfl | rfl | rfl | rfl | rfl | rfl | rfl | rfl | hi
          · obtain rfl := Option.some.inj ho
            have hvp : an.eval (.tmp 7) = ptrTo br1_11 := hI.oldQ (by kernel_rfl) rfl
            exact hI.pureQ (by kernel_rfl) hls rfl rfl rfl _ (run_loadQ rfl hvp wn (hI.upd.blk (show Blk ws2_0.drew br1_11 45 ar1_10 from Bxr1y11_s2_0.out) (fun h => h)) Tryd.underlying45 rfl szN (by rw [hCr1_10.size]; exact Nat.le_of_ble_eq_true rfl)) (.val (.agg ar1_10)) rfl (congrArg Value.agg (extract_all _ 16 hCr1_10.size)) rfl hK'
          · obtain rfl := Option.some.inj ho
            have hvp : an.eval (.tmp 7) = ptrTo br1_11 := hI.oldQ (by kernel_rfl) rfl
            exact hI.pureQ (by kernel_rfl) hls rfl rfl rfl _ (run_loadQ rfl hvp wn (hI.upd.blk (show Blk ws2_0.drew br1_11 45 ar1_10 from Bxr1y11_s2_0.out) (fun h => h)) Tryd.underlying45 rfl szN (by rw [hCr1_10.size]; exact Nat.le_of_ble_eq_true rfl)) (.val (.agg ar1_10)) rfl (congrArg Value.agg (extract_all _ 16 hCr1_10.size)) rfl hK'
          · obtain rfl := Option.some.inj ho
            obtain ⟨vp, hvp, hsp⟩ := hI.haveQ 0 _ 31 (.val (.agg ar1_10)) rfl rfl rfl (hdep ⟨0, .data⟩ (by simp) rfl)
            obtain rfl := hsp
            obtain ⟨vq, hvq, hsq⟩ := hI.haveQ 1 _ 32 (.val (.agg ar1_10)) rfl rfl rfl (hdep ⟨1, .data⟩ (by simp) rfl)
            obtain rfl := hsq
            exact hI.callQ (by kernel_rfl) hls rfl rfl rfl 58 #[.tmp 31, .tmp 32] _ rfl #[.agg ar1_10, .agg ar1_10] (by simp [eval_of hvp, eval_of hvq]) (run_enter Tryd.func58 (by kernel_rfl) (by kernel_rfl)) (.like (IsC 16 RN [((x1 * x2) - (z1 * z2)) * ((x1 * x2) - (z1 * z2))])) rfl rfl ((rMulE hCr1_10 hCr1_10).mono fun _ _ h => h.sq) hK'
          · obtain rfl := Option.some.inj ho
            have hvp : an.eval (.tmp 5) = ptrTo br0_2 := hI.oldQ (by kernel_rfl) rfl
            exact hI.pureQ (by kernel_rfl) hls rfl rfl rfl _ (run_loadQ rfl hvp wn (hI.upd.blk (show Blk ws2_0.drew br0_2 45 zr0_2 from Bxr0y2_s2_0.out) (fun h => h)) Tryd.underlying45 rfl szN (by rw [hzr0_2.size]; exact Nat.le_of_ble_eq_true rfl)) (.val (.agg zr0_2)) rfl (congrArg Value.agg (extract_all _ 16 hzr0_2.size)) rfl hK'
          · obtain rfl := Option.some.inj ho
            have hvp : an.eval (.tmp 8) = ptrTo br2_11 := hI.oldQ (by kernel_rfl) rfl
            exact hI.pureQ (by kernel_rfl) hls rfl rfl rfl _ (run_loadQ rfl hvp wn (hI.upd.blk (show Blk ws2_0.drew br2_11 45 ar2_10 from Bxr2y11_s2_0.out) (fun h => h)) Tryd.underlying45 rfl szN (by rw [hCr2_10.size]; exact Nat.le_of_ble_eq_true rfl)) (.val (.agg ar2_10)) rfl (congrArg Value.agg (extract_all _ 16 hCr2_10.size)) rfl hK'
          · obtain rfl := Option.some.inj ho
            have hvp : an.eval (.tmp 8) = ptrTo br2_11 := hI.oldQ (by kernel_rfl) rfl
            exact hI.pureQ (by kernel_rfl) hls rfl rfl rfl _ (run_loadQ rfl hvp wn (hI.upd.blk (show Blk ws2_0.drew br2_11 45 ar2_10 from Bxr2y11_s2_0.out) (fun h => h)) Tryd.underlying45 rfl szN (by rw [hCr2_10.size]; exact Nat.le_of_ble_eq_true rfl)) (.val (.agg ar2_10)) rfl (congrArg Value.agg (extract_all _ 16 hCr2_10.size)) rfl hK'
          · obtain rfl := Option.some.inj ho
            obtain ⟨vp, hvp, hsp⟩ := hI.haveQ 4 _ 35 (.val (.agg ar2_10)) rfl rfl rfl (hdep ⟨4, .data⟩ (by simp) rfl)
            obtain rfl := hsp
            obtain ⟨vq, hvq, hsq⟩ := hI.haveQ 5 _ 36 (.val (.agg ar2_10)) rfl rfl rfl (hdep ⟨5, .data⟩ (by simp) rfl)
            obtain rfl := hsq
            exact hI.callQ (by kernel_rfl) hls rfl rfl rfl 58 #[.tmp 35, .tmp 36] _ rfl #[.agg ar2_10, .agg ar2_10] (by simp [eval_of hvp, eval_of hvq]) (run_enter Tryd.func58 (by kernel_rfl) (by kernel_rfl)) (.like (IsC 16 RN [((x1 * z2) - (z1 * x2)) * ((x1 * z2) - (z1 * x2))])) rfl rfl ((rMulE hCr2_10 hCr2_10).mono fun _ _ h => h.sq) hK'
          · obtain rfl := Option.some.inj ho
            obtain ⟨vp, hvp, hsp⟩ := hI.haveQ 3 _ 34 (.val (.agg zr0_2)) rfl rfl rfl (hdep ⟨3, .data⟩ (by simp) rfl)
            obtain rfl := hsp
            obtain ⟨vq, hvq, aq, rfl, hCq⟩ := hI.haveQ 6 _ 37 (.like (IsC 16 RN [((x1 * z2) - (z1 * x2)) * ((x1 * z2) - (z1 * x2))])) rfl rfl rfl (hdep ⟨6, .data⟩ (by simp) rfl)
            exact hI.callQ (by kernel_rfl) hls rfl rfl rfl 58 #[.tmp 34, .tmp 37] _ rfl #[.agg zr0_2, .agg aq] (by simp [eval_of hvp, eval_of hvq]) (run_enter Tryd.func58 (by kernel_rfl) (by kernel_rfl)) (.like (IsC 16 RN [u * (((x1 * z2) - (z1 * x2)) * ((x1 * z2) - (z1 * x2)))])) rfl rfl ((rMulE hzr0_2 hCq).mono fun _ _ h => h.sq) hK'
          · obtain rfl := Option.some.inj ho
            obtain ⟨vp, hvp, ap, rfl, hCp⟩ := hI.haveQ 2 _ 33 (.like (IsC 16 RN [((x1 * x2) - (z1 * z2)) * ((x1 * x2) - (z1 * z2))])) rfl rfl rfl (hdep ⟨2, .data⟩ (by simp) rfl)
            obtain ⟨vq, hvq, aq, rfl, hCq⟩ := hI.haveQ 7 _ 38 (.like (IsC 16 RN [u * (((x1 * z2) - (z1 * x2)) * ((x1 * z2) - (z1 * x2)))])) rfl rfl rfl (hdep ⟨7, .data⟩ (by simp) rfl)
            exact hI.pureQ (by kernel_rfl) hls rfl rfl rfl _ (run_buildR5 rfl (eval_of hvp) (eval_of hvq) hCp.size hCq.size wn) (.like (IsC 16 RN [((x1 * x2) - (z1 * z2)) * ((x1 * x2) - (z1 * z2)), u * (((x1 * z2) - (z1 * x2)) * ((x1 * z2) - (z1 * x2)))])) rfl ⟨_, rfl, (hCp.cat hCq)⟩ rfl hK'
          · exact hi.elim
        · intro fuel an w4 hf hI
          obtain ⟨vr3_0, hvr3_0, hsr3_0⟩ := hI.haveQ 0 _ 31 (.val (.agg ar1_10)) rfl rfl rfl rfl
          obtain rfl := hsr3_0
          obtain ⟨vr3_1, hvr3_1, hsr3_1⟩ := hI.haveQ 1 _ 32 (.val (.agg ar1_10)) rfl rfl rfl rfl
          obtain rfl := hsr3_1
          obtain ⟨vr3_2, hvr3_2, ar3_2, rfl, hCr3_2⟩ := hI.haveQ 2 _ 33 (.like (IsC 16 RN [((x1 * x2) - (z1 * z2)) * ((x1 * x2) - (z1 * z2))])) rfl rfl rfl rfl
          obtain ⟨vr3_3, hvr3_3, hsr3_3⟩ := hI.haveQ 3 _ 34 (.val (.agg zr0_2)) rfl rfl rfl rfl
          obtain rfl := hsr3_3
          obtain ⟨vr3_4, hvr3_4, hsr3_4⟩ := hI.haveQ 4 _ 35 (.val (.agg ar2_10)) rfl rfl rfl rfl
          obtain rfl := hsr3_4
          obtain ⟨vr3_5, hvr3_5, hsr3_5⟩ := hI.haveQ 5 _ 36 (.val (.agg ar2_10)) rfl rfl rfl rfl
          obtain rfl := hsr3_5
          obtain ⟨vr3_6, hvr3_6, ar3_6, rfl, hCr3_6⟩ := hI.haveQ 6 _ 37 (.like (IsC 16 RN [((x1 * z2) - (z1 * x2)) * ((x1 * z2) - (z1 * x2))])) rfl rfl rfl rfl
          obtain ⟨vr3_7, hvr3_7, ar3_7, rfl, hCr3_7⟩ := hI.haveQ 7 _ 38 (.like (IsC 16 RN [u * (((x1 * z2) - (z1 * x2)) * ((x1 * z2) - (z1 * x2)))])) rfl rfl rfl rfl
          obtain ⟨vr3_8, hvr3_8, ar3_8, rfl, hCr3_8⟩ := hI.haveQ 8 _ 39 (.like (IsC 16 RN [((x1 * x2) - (z1 * z2)) * ((x1 * x2) - (z1 * z2)), u * (((x1 * z2) - (z1 * x2)) * ((x1 * z2) - (z1 * x2)))])) rfl rfl rfl rfl
          have hupd := hI.upd
          have ha := hI.act [(31, .agg ar1_10), (32, .agg ar1_10), (33, .agg ar3_2), (34, .agg zr0_2), (35, .agg ar2_10), (36, .agg ar2_10), (37, .agg ar3_6), (38, .agg ar3_7), (39, .agg ar3_8)] (by simp [hvr3_0, hvr3_1, hvr3_2, hvr3_3, hvr3_4, hvr3_5, hvr3_6, hvr3_7, hvr3_8]) (by kernel_rfl)
          clear hI hvr3_0 hvr3_1 hvr3_2 hvr3_3 hvr3_4 hvr3_5 hvr3_6 hvr3_7 hvr3_8
          subst ha
          simp only [List.foldl_cons, List.foldl_nil, List.setIfInBounds_toArray, List.set_cons_zero, List.set_cons_succ]
          have Bxr0y0_3 := Lib.hid (hupd.blk (show Blk ws2_0.drew br0_0 80 zr0_0 from Bxr0y0_s2_0.out) (fun h => h))
          have Bxr0y1_3 := Lib.hid (hupd.blk (show Blk ws2_0.drew br0_1 80 zr0_1 from Bxr0y1_s2_0.out) (fun h => h))
          have Bxr0y2_3 := Lib.hid (hupd.blk (show Blk ws2_0.drew br0_2 45 zr0_2 from Bxr0y2_s2_0.out) (fun h => h))
          have Bxr0y3_3 := Lib.hid (hupd.blk (show Blk ws2_0.drew br0_3 80 zr0_3 from Bxr0y3_s2_0.out) (fun h => h))
          have Bxr1y11_3 := Lib.hid (hupd.blk (show Blk ws2_0.drew br1_11 45 ar1_10 from Bxr1y11_s2_0.out) (fun h => h))
          have Bxr2y11_3 := Lib.hid (hupd.blk (show Blk ws2_0.drew br2_11 45 ar2_10 from Bxr2y11_s2_0.out) (fun h => h))
          have HU3 := Lib.hid (HU2_0.out.drew.trans hupd)
          clear hupd
          have hf0 : left #[true, true, true, true, true, true, true, true, true, false] 10 = 1 := by kernel_rfl
          have hf1 : left #[true, true, true, true, true, true, true, true, true, false] 10 ≤ fuel := hf
          obtain ⟨fu, rfl⟩ : ∃ fu, fuel = fu + 1 := ⟨fuel - 1, by omega⟩
          clear hf hf0 hf1
          refine wpAny_storeQ 9 rfl (by kernel_rfl) rfl rfl 80 (.tmp 6) (.tmp 39) rfl br0_3 0 32 rfl ar3_8 rfl 80 zr0_3 Bxr0y3_3.out szR5 hCr3_8.size (by rw [hzr0_3.size]; exact Nat.le_of_ble_eq_true rfl) hCr3_8.one' ?_
          intro ws3_0 hs3_0 hus3_0
          rw [splice_all _ _ 32 hzr0_3.size hCr3_8.size] at hs3_0
          have Bxr0y0_s3_0 := Lib.hid (hus3_0.blk Bxr0y0_3.out (fun e => hner0_0_r0_3.out e))
          have Bxr0y1_s3_0 := Lib.hid (hus3_0.blk Bxr0y1_3.out (fun e => hner0_1_r0_3.out e))
          have Bxr0y2_s3_0 := Lib.hid (hus3_0.blk Bxr0y2_3.out (fun e => hner0_2_r0_3.out e))
          have Bxr1y11_s3_0 := Lib.hid (hus3_0.blk Bxr1y11_3.out (fun e => hner1_11_Bxr0y3.out e))
          have Bxr2y11_s3_0 := Lib.hid (hus3_0.blk Bxr2y11_3.out (fun e => hner2_11_Bxr0y3_s1_0.out e))
          have Bxr0y3_s3_0 := Lib.hid hs3_0
          have HU3_0 := Lib.hid (HU3.out.step hus3_0 (fun i hi h => absurd hi (Nat.not_lt.2 (h.symm ▸ hger0_3.out))))
          clear hs3_0 hus3_0
          refine wpAny_done (by kernel_rfl) ?_ _
          refine hK3 _ _ ?_
          clear hK3
          refine wp_ret ?_
          try dsimp only [Exit.then]
          try dsimp only [Exit.inBlock]
          exact bodyPost_ret (v := .agg ar3_8) (results_cell_row (fn := Tryd.f55) (p := 6) (ty := 80) rfl _ _ br0_3 80 _ (0, 0) _ rfl Bxr0y3_s3_0.out Tryd.underlying80 rfl (by rw [hCr3_8.size]; exact szR5)) rfl ⟨_, rfl, hCr3_8, HU3_0.out⟩
end Go.Proofs.YtdpafemcpbhlfaaDoor
