/-
  Walks of the reference of layer 6: D, Zero, Add.
-/
import Derived.Test.YtdpafemcpbhlfaaDoorSh
import Derived.Test.YtdpafemcpbhlfaaDoorLate
namespace Go.Proofs.YtdpafemcpbhlfaaDoor
set_option maxRecDepth 100000
open Go.RowKit

set_option maxHeartbeats 4000000 in
theorem rDP (w : World) :
    Calls Tryd.prog 30 #[] w (RetC 16 RN [(-(fv 121665)) * (finv (fv 121666))] w) := by
  have HU := hh (Upd.refl (fun _ => False) w)
  go_enter Tryd.func30, Tryd.ntmps30
  refine wp_seq_k fun K0 hK0 => ?_
  refine wp_region_qSD 1 #[true] [] ([.blk ptrTo 45 (Ch 16 RN [0])] : List SQ) (by kernel_rfl) (by kernel_rfl) (by kernel_rfl) (by kernel_rfl) ?_ ?_
  · intro i o listed an wn ho hls hst hun hdep hI hD hpre K' hK'
    rcases slot_cases (l := [0]) rfl ho hst with rfl | ⟨⟨⟩⟩
    · obtain rfl := Option.some.inj ho
      exact hI.newQ hD hls (Nat.le_refl _) (newsQ_spec (l := [0]) (by kernel_rfl) ⟨⟨_, _, rfl⟩, trivial⟩) rfl rfl rfl 45 zeroN _ (run_allocQ rfl zN_run wn) rfl zN_ch hK'
  intro an w1 hI
  obtain ⟨vr0_0, hvr0_0, br0_0, zr0_0, rfl, hnr0_0, hbr0_0, hzr0_0⟩ := hI.hq 0 _ 0 _ rfl rfl rfl rfl
  have hupd := hI.upd
  have ha := hI.act [(0, ptrTo br0_0)] (by simp [hvr0_0]) (by kernel_rfl)
  clear hI hvr0_0
  subst ha
  simp only [List.foldl_cons, List.foldl_nil, List.setIfInBounds_toArray, List.set_cons_zero]
  have hger0_0 := geB HU hnr0_0
  have Bxr0y0 := hh hbr0_0
  have HU0 := hh (HU.out.trans hupd)
  clear hupd
  refine wpOps_nil ?_
  refine hK0 _ _ ?_
  clear hK0
  refine wp_seq_k fun K1 hK1 => ?_
  refine wp_region_qSD 5 #[true, true, true, true, true, false] [5] ([.like (IsC 16 RN [fv 121665]), .like (IsC 16 RN [-(fv 121665)]), .like (IsC 16 RN [fv 121666]), .like (IsC 16 RN [finv (fv 121666)]), .like (IsC 16 RN [(-(fv 121665)) * (finv (fv 121666))]), .val undef] : List SQ) (by kernel_rfl) (by kernel_rfl) (by kernel_rfl) (by kernel_rfl) ?_ ?_
  · intro i o listed an wn ho hls hst hun hdep hI hD hpre K' hK'
    rcases slot_cases (l := [0, 1, 2, 3, 4]) rfl ho hst with rfl | rfl | rfl | rfl | rfl | ⟨⟨⟩⟩
    · obtain rfl := Option.some.inj ho
      exact hI.cq hD hls rfl rfl rfl 54 #[.const (.int .u64 121665)] _ rfl #[.int .u64 121665] (by simp [Act.eval]) (run_enter Tryd.func54 (by kernel_rfl) (by kernel_rfl)) (.like (IsC 16 RN [fv 121665])) rfl rfl ((rSmallE 121665 (by decide) (by decide)).mono fun _ _ h => h.sq) hK'
    · obtain rfl := Option.some.inj ho
      obtain ⟨vp, hvp, ap, rfl, hCp⟩ := hI.hq 0 _ 1 _ rfl rfl rfl (dp hdep 0 rfl rfl)
      exact hI.cq hD hls rfl rfl rfl 68 #[.tmp 1] _ rfl #[.agg ap] (by simp [eval_of hvp]) (run_enter Tryd.func68 (by kernel_rfl) (by kernel_rfl)) (.like (IsC 16 RN [-(fv 121665)])) rfl rfl ((rNegE hCp).mono fun _ _ h => h.sq) hK'
    · obtain rfl := Option.some.inj ho
      exact hI.cq hD hls rfl rfl rfl 54 #[.const (.int .u64 121666)] _ rfl #[.int .u64 121666] (by simp [Act.eval]) (run_enter Tryd.func54 (by kernel_rfl) (by kernel_rfl)) (.like (IsC 16 RN [fv 121666])) rfl rfl ((rSmallE 121666 (by decide) (by decide)).mono fun _ _ h => h.sq) hK'
    · obtain rfl := Option.some.inj ho
      obtain ⟨vp, hvp, ap, rfl, hCp⟩ := hI.hq 2 _ 3 _ rfl rfl rfl (dp hdep 0 rfl rfl)
      exact hI.cq hD hls rfl rfl rfl 59 #[.tmp 3] _ rfl #[.agg ap] (by simp [eval_of hvp]) (run_enter Tryd.func59 (by kernel_rfl) (by kernel_rfl)) (.like (IsC 16 RN [finv (fv 121666)])) rfl rfl ((rInvE hCp).mono fun _ _ h => h.sq) hK'
    · obtain rfl := Option.some.inj ho
      obtain ⟨vp, hvp, ap, rfl, hCp⟩ := hI.hq 1 _ 2 _ rfl rfl rfl (dp hdep 0 rfl rfl)
      obtain ⟨vq, hvq, aq, rfl, hCq⟩ := hI.hq 3 _ 4 _ rfl rfl rfl (dp hdep 1 rfl rfl)
      exact hI.cq hD hls rfl rfl rfl 58 #[.tmp 2, .tmp 4] _ rfl #[.agg ap, .agg aq] (by simp [eval_of hvp, eval_of hvq]) (run_enter Tryd.func58 (by kernel_rfl) (by kernel_rfl)) (.like (IsC 16 RN [(-(fv 121665)) * (finv (fv 121666))])) rfl rfl ((rMulE hCp hCq).mono fun _ _ h => h.sq) hK'
  intro an w2 hI
  obtain ⟨vr1_0, hvr1_0, ar1_0, rfl, hCr1_0⟩ := hI.hq 0 _ 1 _ rfl rfl rfl rfl
  obtain ⟨vr1_1, hvr1_1, ar1_1, rfl, hCr1_1⟩ := hI.hq 1 _ 2 _ rfl rfl rfl rfl
  obtain ⟨vr1_2, hvr1_2, ar1_2, rfl, hCr1_2⟩ := hI.hq 2 _ 3 _ rfl rfl rfl rfl
  obtain ⟨vr1_3, hvr1_3, ar1_3, rfl, hCr1_3⟩ := hI.hq 3 _ 4 _ rfl rfl rfl rfl
  obtain ⟨vr1_4, hvr1_4, ar1_4, rfl, hCr1_4⟩ := hI.hq 4 _ 5 _ rfl rfl rfl rfl
  have hupd := hI.upd
  have ha := hI.act [(1, .agg ar1_0), (2, .agg ar1_1), (3, .agg ar1_2), (4, .agg ar1_3), (5, .agg ar1_4)] (by simp [hvr1_0, hvr1_1, hvr1_2, hvr1_3, hvr1_4]) (by kernel_rfl)
  clear hI hvr1_0 hvr1_1 hvr1_2 hvr1_3 hvr1_4
  subst ha
  simp only [List.foldl_cons, List.foldl_nil, List.setIfInBounds_toArray, List.set_cons_zero, List.set_cons_succ]
  have Bxr0y0_1 := hupd.keep Bxr0y0
  have HU1 := hh (HU0.out.trans hupd)
  clear hupd
  refine wpOps_storeQ 5 rfl rfl rfl 45 (.tmp 0) (.tmp 5) rfl br0_0 0 16 rfl ar1_4 rfl 45 zr0_0 Bxr0y0_1.out szN hCr1_4.size (by rw [hzr0_0.size]; exact Nat.le_of_ble_eq_true rfl) hCr1_4.one' ?_
  intro ws1_0 hs1_0 hus1_0
  rw [splice_all _ _ 16 hzr0_0.size hCr1_4.size] at hs1_0
  have Bxr0y0_s1_0 := hh hs1_0
  have HU1_0 := hh (HU1.out.step hus1_0 (fun i hi h => absurd hi (Nat.not_lt.2 (h.symm ▸ hger0_0.out))))
  clear hs1_0 hus1_0
  refine wpOps_nil ?_
  refine hK1 _ _ ?_
  clear hK1
  refine wp_ret ?_
  try dsimp only [Exit.then]
  try dsimp only [Exit.inBlock]
  exact bodyPost_ret (v := .agg ar1_4) (results_cell_row (fn := Tryd.f30) (p := 0) (ty := 45) rfl _ _ br0_0 45 _ (0, 0) _ rfl Bxr0y0_s1_0.out Tryd.underlying45 rfl (by rw [hCr1_4.size]; exact szN)) rfl ⟨_, rfl, hCr1_4, HU1_0.out⟩
set_option maxHeartbeats 4000000 in
theorem rZeroP (w : World) :
    Calls Tryd.prog 72 #[] w (RetC 16 RN [0, fv 1, fv 1] w) := by
  have HU := hh (Upd.refl (fun _ => False) w)
  go_enter Tryd.func72, Tryd.ntmps72
  refine wp_seq_k fun K0 hK0 => ?_
  refine wp_region_qSD 1 #[true] [] ([.blk ptrTo 47 (Ch 16 RN [0, 0, 0])] : List SQ) (by kernel_rfl) (by kernel_rfl) (by kernel_rfl) (by kernel_rfl) ?_ ?_
  · intro i o listed an wn ho hls hst hun hdep hI hD hpre K' hK'
    rcases slot_cases (l := [0]) rfl ho hst with rfl | ⟨⟨⟩⟩
    · obtain rfl := Option.some.inj ho
      exact hI.newQ hD hls (Nat.le_refl _) (newsQ_spec (l := [0]) (by kernel_rfl) ⟨⟨_, _, rfl⟩, trivial⟩) rfl rfl rfl 47 zR6 _ (run_allocQ rfl zR6_run wn) rfl zR6_ch hK'
  intro an w1 hI
  obtain ⟨vr0_0, hvr0_0, br0_0, zr0_0, rfl, hnr0_0, hbr0_0, hzr0_0⟩ := hI.hq 0 _ 0 _ rfl rfl rfl rfl
  have hupd := hI.upd
  have ha := hI.act [(0, ptrTo br0_0)] (by simp [hvr0_0]) (by kernel_rfl)
  clear hI hvr0_0
  subst ha
  simp only [List.foldl_cons, List.foldl_nil, List.setIfInBounds_toArray, List.set_cons_zero]
  have hger0_0 := geB HU hnr0_0
  have Bxr0y0 := hh hbr0_0
  have HU0 := hh (HU.out.trans hupd)
  clear hupd
  refine wpOps_nil ?_
  refine hK0 _ _ ?_
  clear hK0
  refine wp_seq_k fun K1 hK1 => ?_
  refine wp_region_qSD 3 #[true, true, true, false] [3] ([.like (IsC 16 RN [fv 1]), .like (IsC 16 RN [fv 1]), .like (IsC 16 RN [0, fv 1, fv 1]), .val undef] : List SQ) (by kernel_rfl) (by kernel_rfl) (by kernel_rfl) (by kernel_rfl) ?_ ?_
  · intro i o listed an wn ho hls hst hun hdep hI hD hpre K' hK'
    rcases slot_cases (l := [0, 1, 2]) rfl ho hst with rfl | rfl | rfl | ⟨⟨⟩⟩
    · obtain rfl := Option.some.inj ho
      exact hI.cq hD hls rfl rfl rfl 54 #[.const (.int .u64 1)] _ rfl #[.int .u64 1] (by simp [Act.eval]) (run_enter Tryd.func54 (by kernel_rfl) (by kernel_rfl)) (.like (IsC 16 RN [fv 1])) rfl rfl ((rSmallE 1 (by decide) (by decide)).mono fun _ _ h => h.sq) hK'
    · obtain rfl := Option.some.inj ho
      exact hI.cq hD hls rfl rfl rfl 54 #[.const (.int .u64 1)] _ rfl #[.int .u64 1] (by simp [Act.eval]) (run_enter Tryd.func54 (by kernel_rfl) (by kernel_rfl)) (.like (IsC 16 RN [fv 1])) rfl rfl ((rSmallE 1 (by decide) (by decide)).mono fun _ _ h => h.sq) hK'
    · obtain rfl := Option.some.inj ho
      obtain ⟨vp, hvp, ap, rfl, hCp⟩ := hI.hq 0 _ 1 _ rfl rfl rfl (dp hdep 0 rfl rfl)
      obtain ⟨vq, hvq, aq, rfl, hCq⟩ := hI.hq 1 _ 2 _ rfl rfl rfl (dp hdep 1 rfl rfl)
      exact hI.pq hD hls rfl rfl rfl _ (run_buildR612 rfl (eval_of hvp) (eval_of hvq) hCp.size hCq.size wn) (.like (IsC 16 RN [0, fv 1, fv 1])) rfl ⟨_, rfl, ((zN_ch.cat hCp).cat hCq)⟩ rfl hK'
  intro an w2 hI
  obtain ⟨vr1_0, hvr1_0, ar1_0, rfl, hCr1_0⟩ := hI.hq 0 _ 1 _ rfl rfl rfl rfl
  obtain ⟨vr1_1, hvr1_1, ar1_1, rfl, hCr1_1⟩ := hI.hq 1 _ 2 _ rfl rfl rfl rfl
  obtain ⟨vr1_2, hvr1_2, ar1_2, rfl, hCr1_2⟩ := hI.hq 2 _ 3 _ rfl rfl rfl rfl
  have hupd := hI.upd
  have ha := hI.act [(1, .agg ar1_0), (2, .agg ar1_1), (3, .agg ar1_2)] (by simp [hvr1_0, hvr1_1, hvr1_2]) (by kernel_rfl)
  clear hI hvr1_0 hvr1_1 hvr1_2
  subst ha
  simp only [List.foldl_cons, List.foldl_nil, List.setIfInBounds_toArray, List.set_cons_zero, List.set_cons_succ]
  have Bxr0y0_1 := hupd.keep Bxr0y0
  have HU1 := hh (HU0.out.trans hupd)
  clear hupd
  refine wpOps_storeQ 3 rfl rfl rfl 47 (.tmp 0) (.tmp 3) rfl br0_0 0 48 rfl ar1_2 rfl 47 zr0_0 Bxr0y0_1.out szR6 hCr1_2.size (by rw [hzr0_0.size]; exact Nat.le_of_ble_eq_true rfl) hCr1_2.one' ?_
  intro ws1_0 hs1_0 hus1_0
  rw [splice_all _ _ 48 hzr0_0.size hCr1_2.size] at hs1_0
  have Bxr0y0_s1_0 := hh hs1_0
  have HU1_0 := hh (HU1.out.step hus1_0 (fun i hi h => absurd hi (Nat.not_lt.2 (h.symm ▸ hger0_0.out))))
  clear hs1_0 hus1_0
  refine wpOps_nil ?_
  refine hK1 _ _ ?_
  clear hK1
  refine wp_ret ?_
  try dsimp only [Exit.then]
  try dsimp only [Exit.inBlock]
  exact bodyPost_ret (v := .agg ar1_2) (results_cell_row (fn := Tryd.f72) (p := 0) (ty := 47) rfl _ _ br0_0 47 _ (0, 0) _ rfl Bxr0y0_s1_0.out Tryd.underlying47 rfl (by rw [hCr1_2.size]; exact szR6)) rfl ⟨_, rfl, hCr1_2, HU1_0.out⟩
set_option maxHeartbeats 4000000 in
theorem raddP {x1 y1 z1 x2 y2 z2 d : Fp} {a b c : Array Value} (w : World) (ha : Ch 16 RN [x1, y1, z1] a) (hb : Ch 16 RN [x2, y2, z2] b) (hc : Ch 16 RN [d] c) :
    Calls Tryd.prog 29 #[.agg a, .agg b, .agg c] w (RetC 16 RN [((z1 * z2) * (((z1 * z2) * (z1 * z2)) - (d * ((x1 * x2) * (y1 * y2))))) * ((((x1 + y1) * (x2 + y2)) - (x1 * x2)) - (y1 * y2)), ((z1 * z2) * (((z1 * z2) * (z1 * z2)) + (d * ((x1 * x2) * (y1 * y2))))) * ((y1 * y2) + (x1 * x2)), (((z1 * z2) * (z1 * z2)) - (d * ((x1 * x2) * (y1 * y2)))) * (((z1 * z2) * (z1 * z2)) + (d * ((x1 * x2) * (y1 * y2))))] w) := by
  have HU := hh (Upd.refl (fun _ => False) w)
  go_enter Tryd.func29, Tryd.ntmps29
  refine wp_seq_k fun K0 hK0 => ?_
  refine wp_region_qSD 4 #[true, true, true, true] [] ([.blk ptrTo 47 (Ch 16 RN [x1, y1, z1]), .blk ptrTo 47 (Ch 16 RN [x2, y2, z2]), .blk ptrTo 45 (Ch 16 RN [d]), .blk ptrTo 47 (Ch 16 RN [0, 0, 0])] : List SQ) (by kernel_rfl) (by kernel_rfl) (by kernel_rfl) (by kernel_rfl) ?_ ?_
  · intro i o listed an wn ho hls hst hun hdep hI hD hpre K' hK'
    rcases slot_cases (l := [0, 1, 2, 3]) rfl ho hst with rfl | rfl | rfl | rfl | ⟨⟨⟩⟩
    · obtain rfl := Option.some.inj ho
      have hvp : an.eval (.tmp 0) = .agg a := hI.oq (by kernel_rfl) rfl
      exact hI.newQ hD hls (Nat.le_refl _) (newsQ_spec (l := [0, 1, 2, 3]) (by kernel_rfl) ⟨⟨_, _, rfl⟩, ⟨_, _, rfl⟩, ⟨_, _, rfl⟩, ⟨_, _, rfl⟩, trivial⟩) rfl rfl rfl 47 a _ (run_boxQ rfl hvp wn) rfl ha hK'
    · obtain rfl := Option.some.inj ho
      have hvp : an.eval (.tmp 1) = .agg b := hI.oq (by kernel_rfl) rfl
      exact hI.newQ hD hls (Nat.le_refl _) (newsQ_spec (l := [0, 1, 2, 3]) (by kernel_rfl) ⟨⟨_, _, rfl⟩, ⟨_, _, rfl⟩, ⟨_, _, rfl⟩, ⟨_, _, rfl⟩, trivial⟩) rfl rfl rfl 47 b _ (run_boxQ rfl hvp wn) rfl hb hK'
    · obtain rfl := Option.some.inj ho
      have hvp : an.eval (.tmp 2) = .agg c := hI.oq (by kernel_rfl) rfl
      exact hI.newQ hD hls (Nat.le_refl _) (newsQ_spec (l := [0, 1, 2, 3]) (by kernel_rfl) ⟨⟨_, _, rfl⟩, ⟨_, _, rfl⟩, ⟨_, _, rfl⟩, ⟨_, _, rfl⟩, trivial⟩) rfl rfl rfl 45 c _ (run_boxQ rfl hvp wn) rfl hc hK'
    · obtain rfl := Option.some.inj ho
      exact hI.newQ hD hls (Nat.le_refl _) (newsQ_spec (l := [0, 1, 2, 3]) (by kernel_rfl) ⟨⟨_, _, rfl⟩, ⟨_, _, rfl⟩, ⟨_, _, rfl⟩, ⟨_, _, rfl⟩, trivial⟩) rfl rfl rfl 47 zR6 _ (run_allocQ rfl zR6_run wn) rfl zR6_ch hK'
  intro an w1 hI
  obtain ⟨vr0_0, hvr0_0, br0_0, zr0_0, rfl, hnr0_0, hbr0_0, hzr0_0⟩ := hI.hq 0 _ 3 _ rfl rfl rfl rfl
  obtain ⟨vr0_1, hvr0_1, br0_1, zr0_1, rfl, hnr0_1, hbr0_1, hzr0_1⟩ := hI.hq 1 _ 4 _ rfl rfl rfl rfl
  obtain ⟨vr0_2, hvr0_2, br0_2, zr0_2, rfl, hnr0_2, hbr0_2, hzr0_2⟩ := hI.hq 2 _ 5 _ rfl rfl rfl rfl
  obtain ⟨vr0_3, hvr0_3, br0_3, zr0_3, rfl, hnr0_3, hbr0_3, hzr0_3⟩ := hI.hq 3 _ 6 _ rfl rfl rfl rfl
  have hupd := hI.upd
  have hner0_0_r0_1 := hh (show br0_0 ≠ br0_1 from fun e => hI.apart 0 1 _ _ 3 4 (by omega) rfl rfl rfl rfl rfl rfl rfl rfl (by rw [hvr0_0, hvr0_1, e]))
  have hner0_0_r0_2 := hh (show br0_0 ≠ br0_2 from fun e => hI.apart 0 2 _ _ 3 5 (by omega) rfl rfl rfl rfl rfl rfl rfl rfl (by rw [hvr0_0, hvr0_2, e]))
  have hner0_0_r0_3 := hh (show br0_0 ≠ br0_3 from fun e => hI.apart 0 3 _ _ 3 6 (by omega) rfl rfl rfl rfl rfl rfl rfl rfl (by rw [hvr0_0, hvr0_3, e]))
  have hner0_1_r0_2 := hh (show br0_1 ≠ br0_2 from fun e => hI.apart 1 2 _ _ 4 5 (by omega) rfl rfl rfl rfl rfl rfl rfl rfl (by rw [hvr0_1, hvr0_2, e]))
  have hner0_1_r0_3 := hh (show br0_1 ≠ br0_3 from fun e => hI.apart 1 3 _ _ 4 6 (by omega) rfl rfl rfl rfl rfl rfl rfl rfl (by rw [hvr0_1, hvr0_3, e]))
  have hner0_2_r0_3 := hh (show br0_2 ≠ br0_3 from fun e => hI.apart 2 3 _ _ 5 6 (by omega) rfl rfl rfl rfl rfl rfl rfl rfl (by rw [hvr0_2, hvr0_3, e]))
  have ha := hI.act [(3, ptrTo br0_0), (4, ptrTo br0_1), (5, ptrTo br0_2), (6, ptrTo br0_3)] (by simp [hvr0_0, hvr0_1, hvr0_2, hvr0_3]) (by kernel_rfl)
  clear hI hvr0_0 hvr0_1 hvr0_2 hvr0_3
  subst ha
  simp only [List.foldl_cons, List.foldl_nil, List.setIfInBounds_toArray, List.set_cons_zero, List.set_cons_succ]
  have hger0_0 := geB HU hnr0_0
  have hger0_1 := geB HU hnr0_1
  have hger0_2 := geB HU hnr0_2
  have hger0_3 := geB HU hnr0_3
  have Bxr0y0 := hh hbr0_0
  have Bxr0y1 := hh hbr0_1
  have Bxr0y2 := hh hbr0_2
  have Bxr0y3 := hh hbr0_3
  have HU0 := hh (HU.out.trans hupd)
  clear hupd
  refine wpOps_nil ?_
  refine hK0 _ _ ?_
  clear hK0
  refine wp_seq_k fun K1 hK1 => ?_
  refine wp_region_qSD 6 #[true, true, true, true, true, true, false] [6] ([.val (.pointer (some ⟨br0_0, 0 + 32, none⟩)), .val (.agg (zr0_0.extract (0 + 32) (0 + 32 + 16))), .val (.pointer (some ⟨br0_1, 0 + 32, none⟩)), .val (.agg (zr0_1.extract (0 + 32) (0 + 32 + 16))), .like (IsC 16 RN [z1 * z2]), .blk ptrTo 45 (Ch 16 RN [0]), .val undef] : List SQ) (by kernel_rfl) (by kernel_rfl) (by kernel_rfl) (by kernel_rfl) ?_ ?_
  · intro i o listed an wn ho hls hst hun hdep hI hD hpre K' hK'
    rcases slot_cases (l := [0, 1, 2, 3, 4, 5]) rfl ho hst with rfl | rfl | rfl | rfl | rfl | rfl | ⟨⟨⟩⟩
    · obtain rfl := Option.some.inj ho
      have hvp : an.eval (.tmp 3) = ptrTo br0_0 := hI.oq (by kernel_rfl) rfl
      exact hI.pq hD hls rfl rfl rfl _ (run_fieldQ (g := br0_0) (off := 0) (k := 32) rfl hvp Tryd.underlying47 rfl (by rfl) szN wn) (.val (.pointer (some ⟨br0_0, 0 + 32, none⟩))) rfl rfl rfl hK'
    · obtain rfl := Option.some.inj ho
      obtain ⟨vp, hvp, rfl⟩ := hI.hq 0 _ 15 _ rfl rfl rfl (dp hdep 0 rfl rfl)
      exact hI.pq hD hls rfl rfl rfl _ (run_loadQ rfl (eval_of hvp) wn (hI.upd.keep Bxr0y0).out Tryd.underlying45 rfl szN (by rw [hzr0_0.size]; exact Nat.le_of_ble_eq_true rfl)) (.val (.agg (zr0_0.extract (0 + 32) (0 + 32 + 16)))) rfl rfl rfl hK'
    · obtain rfl := Option.some.inj ho
      have hvp : an.eval (.tmp 4) = ptrTo br0_1 := hI.oq (by kernel_rfl) rfl
      exact hI.pq hD hls rfl rfl rfl _ (run_fieldQ (g := br0_1) (off := 0) (k := 32) rfl hvp Tryd.underlying47 rfl (by rfl) szN wn) (.val (.pointer (some ⟨br0_1, 0 + 32, none⟩))) rfl rfl rfl hK'
    · obtain rfl := Option.some.inj ho
      obtain ⟨vp, hvp, rfl⟩ := hI.hq 2 _ 17 _ rfl rfl rfl (dp hdep 0 rfl rfl)
      exact hI.pq hD hls rfl rfl rfl _ (run_loadQ rfl (eval_of hvp) wn (hI.upd.keep Bxr0y1).out Tryd.underlying45 rfl szN (by rw [hzr0_1.size]; exact Nat.le_of_ble_eq_true rfl)) (.val (.agg (zr0_1.extract (0 + 32) (0 + 32 + 16)))) rfl rfl rfl hK'
    · obtain rfl := Option.some.inj ho
      obtain ⟨vp, hvp, rfl⟩ := hI.hq 1 _ 16 _ rfl rfl rfl (dp hdep 0 rfl rfl)
      obtain ⟨vq, hvq, rfl⟩ := hI.hq 3 _ 18 _ rfl rfl rfl (dp hdep 1 rfl rfl)
      exact hI.cq hD hls rfl rfl rfl 58 #[.tmp 16, .tmp 18] _ rfl #[.agg (zr0_0.extract (0 + 32) (0 + 32 + 16)), .agg (zr0_1.extract (0 + 32) (0 + 32 + 16))] (by simp [eval_of hvp, eval_of hvq]) (run_enter Tryd.func58 (by kernel_rfl) (by kernel_rfl)) (.like (IsC 16 RN [z1 * z2])) rfl rfl ((rMulE (hzr0_0.at 2 (0 + 32) rfl rfl) (hzr0_1.at 2 (0 + 32) rfl rfl)).mono fun _ _ h => h.sq) hK'
    · obtain rfl := Option.some.inj ho
      exact hI.newQ hD hls (Nat.le_refl _) (newsQ_spec (l := [5]) (by kernel_rfl) ⟨⟨_, _, rfl⟩, trivial⟩) rfl rfl rfl 45 zeroN _ (run_allocQ rfl zN_run wn) rfl zN_ch hK'
  intro an w2 hI
  obtain ⟨vr1_0, hvr1_0, rfl⟩ := hI.hq 0 _ 15 _ rfl rfl rfl rfl
  obtain ⟨vr1_1, hvr1_1, rfl⟩ := hI.hq 1 _ 16 _ rfl rfl rfl rfl
  obtain ⟨vr1_2, hvr1_2, rfl⟩ := hI.hq 2 _ 17 _ rfl rfl rfl rfl
  obtain ⟨vr1_3, hvr1_3, rfl⟩ := hI.hq 3 _ 18 _ rfl rfl rfl rfl
  obtain ⟨vr1_4, hvr1_4, ar1_4, rfl, hCr1_4⟩ := hI.hq 4 _ 19 _ rfl rfl rfl rfl
  obtain ⟨vr1_5, hvr1_5, br1_5, zr1_5, rfl, hnr1_5, hbr1_5, hzr1_5⟩ := hI.hq 5 _ 7 _ rfl rfl rfl rfl
  have hupd := hI.upd
  have ha := hI.act [(15, .pointer (some ⟨br0_0, 0 + 32, none⟩)), (16, .agg (zr0_0.extract (0 + 32) (0 + 32 + 16))), (17, .pointer (some ⟨br0_1, 0 + 32, none⟩)), (18, .agg (zr0_1.extract (0 + 32) (0 + 32 + 16))), (19, .agg ar1_4), (7, ptrTo br1_5)] (by simp [hvr1_0, hvr1_1, hvr1_2, hvr1_3, hvr1_4, hvr1_5]) (by kernel_rfl)
  clear hI hvr1_0 hvr1_1 hvr1_2 hvr1_3 hvr1_4 hvr1_5
  subst ha
  simp only [List.foldl_cons, List.foldl_nil, List.setIfInBounds_toArray, List.set_cons_zero, List.set_cons_succ]
  have hner1_5_Bxr0y0 := apartB Bxr0y0 hnr1_5
  have hner1_5_Bxr0y1 := apartB Bxr0y1 hnr1_5
  have hner1_5_Bxr0y2 := apartB Bxr0y2 hnr1_5
  have hner1_5_Bxr0y3 := apartB Bxr0y3 hnr1_5
  have hger1_5 := geB HU0 hnr1_5
  have Bxr0y0_1 := hupd.keep Bxr0y0
  have Bxr0y1_1 := hupd.keep Bxr0y1
  have Bxr0y2_1 := hupd.keep Bxr0y2
  have Bxr0y3_1 := hupd.keep Bxr0y3
  have Bxr1y5 := hh hbr1_5
  have HU1 := hh (HU0.out.trans hupd)
  clear hupd
  refine wpOps_storeQ 6 rfl rfl rfl 45 (.tmp 7) (.tmp 19) rfl br1_5 0 16 rfl ar1_4 rfl 45 zr1_5 Bxr1y5.out szN hCr1_4.size (by rw [hzr1_5.size]; exact Nat.le_of_ble_eq_true rfl) hCr1_4.one' ?_
  intro ws1_0 hs1_0 hus1_0
  rw [splice_all _ _ 16 hzr1_5.size hCr1_4.size] at hs1_0
  have Bxr0y0_s1_0 := hus1_0.keepS Bxr0y0_1 (fun e => hner1_5_Bxr0y0.out e.symm)
  have Bxr0y1_s1_0 := hus1_0.keepS Bxr0y1_1 (fun e => hner1_5_Bxr0y1.out e.symm)
  have Bxr0y2_s1_0 := hus1_0.keepS Bxr0y2_1 (fun e => hner1_5_Bxr0y2.out e.symm)
  have Bxr0y3_s1_0 := hus1_0.keepS Bxr0y3_1 (fun e => hner1_5_Bxr0y3.out e.symm)
  have Bxr1y5_s1_0 := hh hs1_0
  have HU1_0 := hh (HU1.out.step hus1_0 (fun i hi h => absurd hi (Nat.not_lt.2 (h.symm ▸ hger1_5.out))))
  clear hs1_0 hus1_0
  refine wpOps_nil ?_
  refine hK1 _ _ ?_
  clear hK1
  refine wp_seq_k fun K2 hK2 => ?_
  refine wp_region_qSD 4 #[true, true, true, true, false] [4] ([.val (.agg ar1_4), .val (.agg ar1_4), .like (IsC 16 RN [(z1 * z2) * (z1 * z2)]), .blk ptrTo 45 (Ch 16 RN [0]), .val undef] : List SQ) (by kernel_rfl) (by kernel_rfl) (by kernel_rfl) (by kernel_rfl) ?_ ?_
  · intro i o listed an wn ho hls hst hun hdep hI hD hpre K' hK'
    rcases slot_cases (l := [0, 1, 2, 3]) rfl ho hst with rfl | rfl | rfl | rfl | ⟨⟨⟩⟩
    · obtain rfl := Option.some.inj ho
      have hvp : an.eval (.tmp 7) = ptrTo br1_5 := hI.oq (by kernel_rfl) rfl
      exact hI.pq hD hls rfl rfl rfl _ (run_loadQ rfl hvp wn (hI.upd.keep Bxr1y5_s1_0).out Tryd.underlying45 rfl szN (by rw [hCr1_4.size]; exact Nat.le_of_ble_eq_true rfl)) (.val (.agg ar1_4)) rfl (congrArg Value.agg (extract_all _ 16 hCr1_4.size)) rfl hK'
    · obtain rfl := Option.some.inj ho
      have hvp : an.eval (.tmp 7) = ptrTo br1_5 := hI.oq (by kernel_rfl) rfl
      exact hI.pq hD hls rfl rfl rfl _ (run_loadQ rfl hvp wn (hI.upd.keep Bxr1y5_s1_0).out Tryd.underlying45 rfl szN (by rw [hCr1_4.size]; exact Nat.le_of_ble_eq_true rfl)) (.val (.agg ar1_4)) rfl (congrArg Value.agg (extract_all _ 16 hCr1_4.size)) rfl hK'
    · obtain rfl := Option.some.inj ho
      obtain ⟨vp, hvp, rfl⟩ := hI.hq 0 _ 20 _ rfl rfl rfl (dp hdep 0 rfl rfl)
      obtain ⟨vq, hvq, rfl⟩ := hI.hq 1 _ 21 _ rfl rfl rfl (dp hdep 1 rfl rfl)
      exact hI.cq hD hls rfl rfl rfl 58 #[.tmp 20, .tmp 21] _ rfl #[.agg ar1_4, .agg ar1_4] (by simp [eval_of hvp, eval_of hvq]) (run_enter Tryd.func58 (by kernel_rfl) (by kernel_rfl)) (.like (IsC 16 RN [(z1 * z2) * (z1 * z2)])) rfl rfl ((rMulE hCr1_4 hCr1_4).mono fun _ _ h => h.sq) hK'
    · obtain rfl := Option.some.inj ho
      exact hI.newQ hD hls (Nat.le_refl _) (newsQ_spec (l := [3]) (by kernel_rfl) ⟨⟨_, _, rfl⟩, trivial⟩) rfl rfl rfl 45 zeroN _ (run_allocQ rfl zN_run wn) rfl zN_ch hK'
  intro an w3 hI
  obtain ⟨vr2_0, hvr2_0, rfl⟩ := hI.hq 0 _ 20 _ rfl rfl rfl rfl
  obtain ⟨vr2_1, hvr2_1, rfl⟩ := hI.hq 1 _ 21 _ rfl rfl rfl rfl
  obtain ⟨vr2_2, hvr2_2, ar2_2, rfl, hCr2_2⟩ := hI.hq 2 _ 22 _ rfl rfl rfl rfl
  obtain ⟨vr2_3, hvr2_3, br2_3, zr2_3, rfl, hnr2_3, hbr2_3, hzr2_3⟩ := hI.hq 3 _ 8 _ rfl rfl rfl rfl
  have hupd := hI.upd
  have ha := hI.act [(20, .agg ar1_4), (21, .agg ar1_4), (22, .agg ar2_2), (8, ptrTo br2_3)] (by simp [hvr2_0, hvr2_1, hvr2_2, hvr2_3]) (by kernel_rfl)
  clear hI hvr2_0 hvr2_1 hvr2_2 hvr2_3
  subst ha
  simp only [List.foldl_cons, List.foldl_nil, List.setIfInBounds_toArray, List.set_cons_zero, List.set_cons_succ]
  have hner2_3_Bxr0y0_s1_0 := apartB Bxr0y0_s1_0 hnr2_3
  have hner2_3_Bxr0y1_s1_0 := apartB Bxr0y1_s1_0 hnr2_3
  have hner2_3_Bxr0y2_s1_0 := apartB Bxr0y2_s1_0 hnr2_3
  have hner2_3_Bxr0y3_s1_0 := apartB Bxr0y3_s1_0 hnr2_3
  have hner2_3_Bxr1y5_s1_0 := apartB Bxr1y5_s1_0 hnr2_3
  have hger2_3 := geB HU1_0 hnr2_3
  have Bxr0y0_2 := hupd.keep Bxr0y0_s1_0
  have Bxr0y1_2 := hupd.keep Bxr0y1_s1_0
  have Bxr0y2_2 := hupd.keep Bxr0y2_s1_0
  have Bxr0y3_2 := hupd.keep Bxr0y3_s1_0
  have Bxr1y5_2 := hupd.keep Bxr1y5_s1_0
  have Bxr2y3 := hh hbr2_3
  have HU2 := hh (HU1_0.out.trans hupd)
  clear hupd
  refine wpOps_storeQ 4 rfl rfl rfl 45 (.tmp 8) (.tmp 22) rfl br2_3 0 16 rfl ar2_2 rfl 45 zr2_3 Bxr2y3.out szN hCr2_2.size (by rw [hzr2_3.size]; exact Nat.le_of_ble_eq_true rfl) hCr2_2.one' ?_
  intro ws2_0 hs2_0 hus2_0
  rw [splice_all _ _ 16 hzr2_3.size hCr2_2.size] at hs2_0
  have Bxr0y0_s2_0 := hus2_0.keepS Bxr0y0_2 (fun e => hner2_3_Bxr0y0_s1_0.out e.symm)
  have Bxr0y1_s2_0 := hus2_0.keepS Bxr0y1_2 (fun e => hner2_3_Bxr0y1_s1_0.out e.symm)
  have Bxr0y2_s2_0 := hus2_0.keepS Bxr0y2_2 (fun e => hner2_3_Bxr0y2_s1_0.out e.symm)
  have Bxr0y3_s2_0 := hus2_0.keepS Bxr0y3_2 (fun e => hner2_3_Bxr0y3_s1_0.out e.symm)
  have Bxr1y5_s2_0 := hus2_0.keepS Bxr1y5_2 (fun e => hner2_3_Bxr1y5_s1_0.out e.symm)
  have Bxr2y3_s2_0 := hh hs2_0
  have HU2_0 := hh (HU2.out.step hus2_0 (fun i hi h => absurd hi (Nat.not_lt.2 (h.symm ▸ hger2_3.out))))
  clear hs2_0 hus2_0
  refine wpOps_nil ?_
  refine hK2 _ _ ?_
  clear hK2
  refine wp_seq_k fun K3 hK3 => ?_
  refine wp_region_qD #[true, true, true, true, true, true, true, true, true, true, true, true, false, false] ([.val (.pointer (some ⟨br0_0, 0 + 0, none⟩)), .val (.agg (zr0_0.extract (0 + 0) (0 + 0 + 16))), .val (.pointer (some ⟨br0_1, 0 + 0, none⟩)), .val (.agg (zr0_1.extract (0 + 0) (0 + 0 + 16))), .like (IsC 16 RN [x1 * x2]), .val (.pointer (some ⟨br0_0, 0 + 16, none⟩)), .val (.agg (zr0_0.extract (0 + 16) (0 + 16 + 16))), .val (.pointer (some ⟨br0_1, 0 + 16, none⟩)), .val (.agg (zr0_1.extract (0 + 16) (0 + 16 + 16))), .like (IsC 16 RN [y1 * y2]), .blk ptrTo 45 (Ch 16 RN [0]), .blk ptrTo 45 (Ch 16 RN [0]), .val undef, .val undef] : List SQ) (by kernel_rfl) (by kernel_rfl) (by kernel_rfl) (by kernel_rfl) ?_ ?_
  · intro i o listed an wn ho hls hst hun hdep hI hD K' hK'
    rcases slot_cases (l := [0, 1, 2, 3, 4, 5, 6, 7, 8, 9, 10, 11]) rfl ho hst with rfl | rfl | rfl | rfl | rfl | rfl | rfl | rfl | rfl | rfl | rfl | rfl | ⟨⟨⟩⟩
    · obtain rfl := Option.some.inj ho
      have hvp : an.eval (.tmp 3) = ptrTo br0_0 := hI.oq (by kernel_rfl) rfl
      exact hI.pq hD hls rfl rfl rfl _ (run_fieldQ (g := br0_0) (off := 0) (k := 0) rfl hvp Tryd.underlying47 rfl (by rfl) szN wn) (.val (.pointer (some ⟨br0_0, 0 + 0, none⟩))) rfl rfl rfl hK'
    · obtain rfl := Option.some.inj ho
      obtain ⟨vp, hvp, rfl⟩ := hI.hq 0 _ 23 _ rfl rfl rfl (dp hdep 0 rfl rfl)
      exact hI.pq hD hls rfl rfl rfl _ (run_loadQ rfl (eval_of hvp) wn (hI.upd.keepD Bxr0y0_s2_0).out Tryd.underlying45 rfl szN (by rw [hzr0_0.size]; exact Nat.le_of_ble_eq_true rfl)) (.val (.agg (zr0_0.extract (0 + 0) (0 + 0 + 16)))) rfl rfl rfl hK'
    · obtain rfl := Option.some.inj ho
      have hvp : an.eval (.tmp 4) = ptrTo br0_1 := hI.oq (by kernel_rfl) rfl
      exact hI.pq hD hls rfl rfl rfl _ (run_fieldQ (g := br0_1) (off := 0) (k := 0) rfl hvp Tryd.underlying47 rfl (by rfl) szN wn) (.val (.pointer (some ⟨br0_1, 0 + 0, none⟩))) rfl rfl rfl hK'
    · obtain rfl := Option.some.inj ho
      obtain ⟨vp, hvp, rfl⟩ := hI.hq 2 _ 25 _ rfl rfl rfl (dp hdep 0 rfl rfl)
      exact hI.pq hD hls rfl rfl rfl _ (run_loadQ rfl (eval_of hvp) wn (hI.upd.keepD Bxr0y1_s2_0).out Tryd.underlying45 rfl szN (by rw [hzr0_1.size]; exact Nat.le_of_ble_eq_true rfl)) (.val (.agg (zr0_1.extract (0 + 0) (0 + 0 + 16)))) rfl rfl rfl hK'
    · obtain rfl := Option.some.inj ho
      obtain ⟨vp, hvp, rfl⟩ := hI.hq 1 _ 24 _ rfl rfl rfl (dp hdep 0 rfl rfl)
      obtain ⟨vq, hvq, rfl⟩ := hI.hq 3 _ 26 _ rfl rfl rfl (dp hdep 1 rfl rfl)
      exact hI.cq hD hls rfl rfl rfl 58 #[.tmp 24, .tmp 26] _ rfl #[.agg (zr0_0.extract (0 + 0) (0 + 0 + 16)), .agg (zr0_1.extract (0 + 0) (0 + 0 + 16))] (by simp [eval_of hvp, eval_of hvq]) (run_enter Tryd.func58 (by kernel_rfl) (by kernel_rfl)) (.like (IsC 16 RN [x1 * x2])) rfl rfl ((rMulE (hzr0_0.at 0 (0 + 0) rfl rfl) (hzr0_1.at 0 (0 + 0) rfl rfl)).mono fun _ _ h => h.sq) hK'
    · obtain rfl := Option.some.inj ho
      have hvp : an.eval (.tmp 3) = ptrTo br0_0 := hI.oq (by kernel_rfl) rfl
      exact hI.pq hD hls rfl rfl rfl _ (run_fieldQ (g := br0_0) (off := 0) (k := 16) rfl hvp Tryd.underlying47 rfl (by rfl) szN wn) (.val (.pointer (some ⟨br0_0, 0 + 16, none⟩))) rfl rfl rfl hK'
    · obtain rfl := Option.some.inj ho
      obtain ⟨vp, hvp, rfl⟩ := hI.hq 5 _ 28 _ rfl rfl rfl (dp hdep 0 rfl rfl)
      exact hI.pq hD hls rfl rfl rfl _ (run_loadQ rfl (eval_of hvp) wn (hI.upd.keepD Bxr0y0_s2_0).out Tryd.underlying45 rfl szN (by rw [hzr0_0.size]; exact Nat.le_of_ble_eq_true rfl)) (.val (.agg (zr0_0.extract (0 + 16) (0 + 16 + 16)))) rfl rfl rfl hK'
    · obtain rfl := Option.some.inj ho
      have hvp : an.eval (.tmp 4) = ptrTo br0_1 := hI.oq (by kernel_rfl) rfl
      exact hI.pq hD hls rfl rfl rfl _ (run_fieldQ (g := br0_1) (off := 0) (k := 16) rfl hvp Tryd.underlying47 rfl (by rfl) szN wn) (.val (.pointer (some ⟨br0_1, 0 + 16, none⟩))) rfl rfl rfl hK'
    · obtain rfl := Option.some.inj ho
      obtain ⟨vp, hvp, rfl⟩ := hI.hq 7 _ 30 _ rfl rfl rfl (dp hdep 0 rfl rfl)
      exact hI.pq hD hls rfl rfl rfl _ (run_loadQ rfl (eval_of hvp) wn (hI.upd.keepD Bxr0y1_s2_0).out Tryd.underlying45 rfl szN (by rw [hzr0_1.size]; exact Nat.le_of_ble_eq_true rfl)) (.val (.agg (zr0_1.extract (0 + 16) (0 + 16 + 16)))) rfl rfl rfl hK'
    · obtain rfl := Option.some.inj ho
      obtain ⟨vp, hvp, rfl⟩ := hI.hq 6 _ 29 _ rfl rfl rfl (dp hdep 0 rfl rfl)
      obtain ⟨vq, hvq, rfl⟩ := hI.hq 8 _ 31 _ rfl rfl rfl (dp hdep 1 rfl rfl)
      exact hI.cq hD hls rfl rfl rfl 58 #[.tmp 29, .tmp 31] _ rfl #[.agg (zr0_0.extract (0 + 16) (0 + 16 + 16)), .agg (zr0_1.extract (0 + 16) (0 + 16 + 16))] (by simp [eval_of hvp, eval_of hvq]) (run_enter Tryd.func58 (by kernel_rfl) (by kernel_rfl)) (.like (IsC 16 RN [y1 * y2])) rfl rfl ((rMulE (hzr0_0.at 1 (0 + 16) rfl rfl) (hzr0_1.at 1 (0 + 16) rfl rfl)).mono fun _ _ h => h.sq) hK'
    · obtain rfl := Option.some.inj ho
      exact hI.newQ hD hls (Nat.le_refl _) (newsQ_spec (l := [10, 11]) (by kernel_rfl) ⟨⟨_, _, rfl⟩, ⟨_, _, rfl⟩, trivial⟩) rfl rfl rfl 45 zeroN _ (run_allocQ rfl zN_run wn) rfl zN_ch hK'
    · obtain rfl := Option.some.inj ho
      exact hI.newQ hD hls (Nat.le_refl _) (newsQ_spec (l := [10, 11]) (by kernel_rfl) ⟨⟨_, _, rfl⟩, ⟨_, _, rfl⟩, trivial⟩) rfl rfl rfl 45 zeroN _ (run_allocQ rfl zN_run wn) rfl zN_ch hK'
  intro fuel an w4 hf hI
  obtain ⟨vr3_0, hvr3_0, rfl⟩ := hI.hq 0 _ 23 _ rfl rfl rfl rfl
  obtain ⟨vr3_1, hvr3_1, rfl⟩ := hI.hq 1 _ 24 _ rfl rfl rfl rfl
  obtain ⟨vr3_2, hvr3_2, rfl⟩ := hI.hq 2 _ 25 _ rfl rfl rfl rfl
  obtain ⟨vr3_3, hvr3_3, rfl⟩ := hI.hq 3 _ 26 _ rfl rfl rfl rfl
  obtain ⟨vr3_4, hvr3_4, ar3_4, rfl, hCr3_4⟩ := hI.hq 4 _ 27 _ rfl rfl rfl rfl
  obtain ⟨vr3_5, hvr3_5, rfl⟩ := hI.hq 5 _ 28 _ rfl rfl rfl rfl
  obtain ⟨vr3_6, hvr3_6, rfl⟩ := hI.hq 6 _ 29 _ rfl rfl rfl rfl
  obtain ⟨vr3_7, hvr3_7, rfl⟩ := hI.hq 7 _ 30 _ rfl rfl rfl rfl
  obtain ⟨vr3_8, hvr3_8, rfl⟩ := hI.hq 8 _ 31 _ rfl rfl rfl rfl
  obtain ⟨vr3_9, hvr3_9, ar3_9, rfl, hCr3_9⟩ := hI.hq 9 _ 32 _ rfl rfl rfl rfl
  obtain ⟨vr3_10, hvr3_10, br3_10, zr3_10, rfl, hnr3_10, hbr3_10, hzr3_10⟩ := hI.hq 10 _ 9 _ rfl rfl rfl rfl
  obtain ⟨vr3_11, hvr3_11, br3_11, zr3_11, rfl, hnr3_11, hbr3_11, hzr3_11⟩ := hI.hq 11 _ 10 _ rfl rfl rfl rfl
  have hupd := hI.upd
  have hner3_10_r3_11 := hh (show br3_10 ≠ br3_11 from fun e => hI.apart 10 11 _ _ 9 10 (by omega) rfl rfl rfl rfl rfl rfl rfl rfl (by rw [hvr3_10, hvr3_11, e]))
  have ha := hI.act [(23, .pointer (some ⟨br0_0, 0 + 0, none⟩)), (24, .agg (zr0_0.extract (0 + 0) (0 + 0 + 16))), (25, .pointer (some ⟨br0_1, 0 + 0, none⟩)), (26, .agg (zr0_1.extract (0 + 0) (0 + 0 + 16))), (27, .agg ar3_4), (28, .pointer (some ⟨br0_0, 0 + 16, none⟩)), (29, .agg (zr0_0.extract (0 + 16) (0 + 16 + 16))), (30, .pointer (some ⟨br0_1, 0 + 16, none⟩)), (31, .agg (zr0_1.extract (0 + 16) (0 + 16 + 16))), (32, .agg ar3_9), (9, ptrTo br3_10), (10, ptrTo br3_11)] (by simp [hvr3_0, hvr3_1, hvr3_2, hvr3_3, hvr3_4, hvr3_5, hvr3_6, hvr3_7, hvr3_8, hvr3_9, hvr3_10, hvr3_11]) (by kernel_rfl)
  clear hI hvr3_0 hvr3_1 hvr3_2 hvr3_3 hvr3_4 hvr3_5 hvr3_6 hvr3_7 hvr3_8 hvr3_9 hvr3_10 hvr3_11
  subst ha
  simp only [List.foldl_cons, List.foldl_nil, List.setIfInBounds_toArray, List.set_cons_zero, List.set_cons_succ]
  have hner3_10_Bxr0y0_s2_0 := apartB Bxr0y0_s2_0 hnr3_10
  have hner3_10_Bxr0y1_s2_0 := apartB Bxr0y1_s2_0 hnr3_10
  have hner3_10_Bxr0y2_s2_0 := apartB Bxr0y2_s2_0 hnr3_10
  have hner3_10_Bxr0y3_s2_0 := apartB Bxr0y3_s2_0 hnr3_10
  have hner3_10_Bxr1y5_s2_0 := apartB Bxr1y5_s2_0 hnr3_10
  have hner3_10_Bxr2y3_s2_0 := apartB Bxr2y3_s2_0 hnr3_10
  have hger3_10 := geB HU2_0 hnr3_10
  have hner3_11_Bxr0y0_s2_0 := apartB Bxr0y0_s2_0 hnr3_11
  have hner3_11_Bxr0y1_s2_0 := apartB Bxr0y1_s2_0 hnr3_11
  have hner3_11_Bxr0y2_s2_0 := apartB Bxr0y2_s2_0 hnr3_11
  have hner3_11_Bxr0y3_s2_0 := apartB Bxr0y3_s2_0 hnr3_11
  have hner3_11_Bxr1y5_s2_0 := apartB Bxr1y5_s2_0 hnr3_11
  have hner3_11_Bxr2y3_s2_0 := apartB Bxr2y3_s2_0 hnr3_11
  have hger3_11 := geB HU2_0 hnr3_11
  have Bxr0y0_3 := hupd.keepD Bxr0y0_s2_0
  have Bxr0y1_3 := hupd.keepD Bxr0y1_s2_0
  have Bxr0y2_3 := hupd.keepD Bxr0y2_s2_0
  have Bxr0y3_3 := hupd.keepD Bxr0y3_s2_0
  have Bxr1y5_3 := hupd.keepD Bxr1y5_s2_0
  have Bxr2y3_3 := hupd.keepD Bxr2y3_s2_0
  have Bxr3y10 := hh hbr3_10
  have Bxr3y11 := hh hbr3_11
  have HU3 := hh (HU2_0.out.drew.trans hupd)
  clear hupd
  have hf0 : left #[true, true, true, true, true, true, true, true, true, true, true, true, false, false] 14 = 2 := by kernel_rfl
  have hf1 : left #[true, true, true, true, true, true, true, true, true, true, true, true, false, false] 14 ≤ fuel := hf
  obtain ⟨fu, rfl⟩ : ∃ fu, fuel = fu + 2 := ⟨fuel - 2, by omega⟩
  clear hf hf0 hf1
  refine wpAny_storeQ 12 rfl (by kernel_rfl) rfl rfl 45 (.tmp 9) (.tmp 27) rfl br3_10 0 16 rfl ar3_4 rfl 45 zr3_10 Bxr3y10.out szN hCr3_4.size (by rw [hzr3_10.size]; exact Nat.le_of_ble_eq_true rfl) hCr3_4.one' ?_
  intro ws3_0 hs3_0 hus3_0
  rw [splice_all _ _ 16 hzr3_10.size hCr3_4.size] at hs3_0
  have Bxr0y0_s3_0 := hus3_0.keepS Bxr0y0_3 (fun e => hner3_10_Bxr0y0_s2_0.out e.symm)
  have Bxr0y1_s3_0 := hus3_0.keepS Bxr0y1_3 (fun e => hner3_10_Bxr0y1_s2_0.out e.symm)
  have Bxr0y2_s3_0 := hus3_0.keepS Bxr0y2_3 (fun e => hner3_10_Bxr0y2_s2_0.out e.symm)
  have Bxr0y3_s3_0 := hus3_0.keepS Bxr0y3_3 (fun e => hner3_10_Bxr0y3_s2_0.out e.symm)
  have Bxr1y5_s3_0 := hus3_0.keepS Bxr1y5_3 (fun e => hner3_10_Bxr1y5_s2_0.out e.symm)
  have Bxr2y3_s3_0 := hus3_0.keepS Bxr2y3_3 (fun e => hner3_10_Bxr2y3_s2_0.out e.symm)
  have Bxr3y11_s3_0 := hus3_0.keepS Bxr3y11 (fun e => hner3_10_r3_11.out e.symm)
  have Bxr3y10_s3_0 := hh hs3_0
  have HU3_0 := hh (HU3.out.step hus3_0 (fun i hi h => absurd hi (Nat.not_lt.2 (h.symm ▸ hger3_10.out))))
  clear hs3_0 hus3_0
  refine wpAny_storeQ 13 rfl (by kernel_rfl) rfl rfl 45 (.tmp 10) (.tmp 32) rfl br3_11 0 16 rfl ar3_9 rfl 45 zr3_11 Bxr3y11_s3_0.out szN hCr3_9.size (by rw [hzr3_11.size]; exact Nat.le_of_ble_eq_true rfl) hCr3_9.one' ?_
  intro ws3_1 hs3_1 hus3_1
  rw [splice_all _ _ 16 hzr3_11.size hCr3_9.size] at hs3_1
  have Bxr0y0_s3_1 := hus3_1.keepS Bxr0y0_s3_0 (fun e => hner3_11_Bxr0y0_s2_0.out e.symm)
  have Bxr0y1_s3_1 := hus3_1.keepS Bxr0y1_s3_0 (fun e => hner3_11_Bxr0y1_s2_0.out e.symm)
  have Bxr0y2_s3_1 := hus3_1.keepS Bxr0y2_s3_0 (fun e => hner3_11_Bxr0y2_s2_0.out e.symm)
  have Bxr0y3_s3_1 := hus3_1.keepS Bxr0y3_s3_0 (fun e => hner3_11_Bxr0y3_s2_0.out e.symm)
  have Bxr1y5_s3_1 := hus3_1.keepS Bxr1y5_s3_0 (fun e => hner3_11_Bxr1y5_s2_0.out e.symm)
  have Bxr2y3_s3_1 := hus3_1.keepS Bxr2y3_s3_0 (fun e => hner3_11_Bxr2y3_s2_0.out e.symm)
  have Bxr3y10_s3_1 := hus3_1.keepS Bxr3y10_s3_0 (fun e => hner3_10_r3_11.out e)
  have Bxr3y11_s3_1 := hh hs3_1
  have HU3_1 := hh (HU3_0.out.step hus3_1 (fun i hi h => absurd hi (Nat.not_lt.2 (h.symm ▸ hger3_11.out))))
  clear hs3_1 hus3_1
  refine wpAny_done (by kernel_rfl) ?_ _
  refine hK3 _ _ ?_
  clear hK3
  refine wp_seq_k fun K4 hK4 => ?_
  refine wp_region_qD #[true, true, true, true, true, true, false] ([.val (.agg zr0_2), .val (.agg ar3_4), .val (.agg ar3_9), .like (IsC 16 RN [(x1 * x2) * (y1 * y2)]), .like (IsC 16 RN [d * ((x1 * x2) * (y1 * y2))]), .blk ptrTo 45 (Ch 16 RN [0]), .val undef] : List SQ) (by kernel_rfl) (by kernel_rfl) (by kernel_rfl) (by kernel_rfl) ?_ ?_
  · intro i o listed an wn ho hls hst hun hdep hI hD K' hK'
    rcases slot_cases (l := [0, 1, 2, 3, 4, 5]) rfl ho hst with rfl | rfl | rfl | rfl | rfl | rfl | ⟨⟨⟩⟩
    · obtain rfl := Option.some.inj ho
      have hvp : an.eval (.tmp 5) = ptrTo br0_2 := hI.oq (by kernel_rfl) rfl
      exact hI.pq hD hls rfl rfl rfl _ (run_loadQ rfl hvp wn (hI.upd.keepD Bxr0y2_s3_1).out Tryd.underlying45 rfl szN (by rw [hzr0_2.size]; exact Nat.le_of_ble_eq_true rfl)) (.val (.agg zr0_2)) rfl (congrArg Value.agg (extract_all _ 16 hzr0_2.size)) rfl hK'
    · obtain rfl := Option.some.inj ho
      have hvp : an.eval (.tmp 9) = ptrTo br3_10 := hI.oq (by kernel_rfl) rfl
      exact hI.pq hD hls rfl rfl rfl _ (run_loadQ rfl hvp wn (hI.upd.keepD Bxr3y10_s3_1).out Tryd.underlying45 rfl szN (by rw [hCr3_4.size]; exact Nat.le_of_ble_eq_true rfl)) (.val (.agg ar3_4)) rfl (congrArg Value.agg (extract_all _ 16 hCr3_4.size)) rfl hK'
    · obtain rfl := Option.some.inj ho
      have hvp : an.eval (.tmp 10) = ptrTo br3_11 := hI.oq (by kernel_rfl) rfl
      exact hI.pq hD hls rfl rfl rfl _ (run_loadQ rfl hvp wn (hI.upd.keepD Bxr3y11_s3_1).out Tryd.underlying45 rfl szN (by rw [hCr3_9.size]; exact Nat.le_of_ble_eq_true rfl)) (.val (.agg ar3_9)) rfl (congrArg Value.agg (extract_all _ 16 hCr3_9.size)) rfl hK'
    · obtain rfl := Option.some.inj ho
      obtain ⟨vp, hvp, rfl⟩ := hI.hq 1 _ 34 _ rfl rfl rfl (dp hdep 0 rfl rfl)
      obtain ⟨vq, hvq, rfl⟩ := hI.hq 2 _ 35 _ rfl rfl rfl (dp hdep 1 rfl rfl)
      exact hI.cq hD hls rfl rfl rfl 58 #[.tmp 34, .tmp 35] _ rfl #[.agg ar3_4, .agg ar3_9] (by simp [eval_of hvp, eval_of hvq]) (run_enter Tryd.func58 (by kernel_rfl) (by kernel_rfl)) (.like (IsC 16 RN [(x1 * x2) * (y1 * y2)])) rfl rfl ((rMulE hCr3_4 hCr3_9).mono fun _ _ h => h.sq) hK'
    · obtain rfl := Option.some.inj ho
      obtain ⟨vp, hvp, rfl⟩ := hI.hq 0 _ 33 _ rfl rfl rfl (dp hdep 0 rfl rfl)
      obtain ⟨vq, hvq, aq, rfl, hCq⟩ := hI.hq 3 _ 36 _ rfl rfl rfl (dp hdep 1 rfl rfl)
      exact hI.cq hD hls rfl rfl rfl 58 #[.tmp 33, .tmp 36] _ rfl #[.agg zr0_2, .agg aq] (by simp [eval_of hvp, eval_of hvq]) (run_enter Tryd.func58 (by kernel_rfl) (by kernel_rfl)) (.like (IsC 16 RN [d * ((x1 * x2) * (y1 * y2))])) rfl rfl ((rMulE hzr0_2 hCq).mono fun _ _ h => h.sq) hK'
    · obtain rfl := Option.some.inj ho
      exact hI.newQ hD hls (Nat.le_refl _) (newsQ_spec (l := [5]) (by kernel_rfl) ⟨⟨_, _, rfl⟩, trivial⟩) rfl rfl rfl 45 zeroN _ (run_allocQ rfl zN_run wn) rfl zN_ch hK'
  intro fuel an w5 hf hI
  obtain ⟨vr4_0, hvr4_0, rfl⟩ := hI.hq 0 _ 33 _ rfl rfl rfl rfl
  obtain ⟨vr4_1, hvr4_1, rfl⟩ := hI.hq 1 _ 34 _ rfl rfl rfl rfl
  obtain ⟨vr4_2, hvr4_2, rfl⟩ := hI.hq 2 _ 35 _ rfl rfl rfl rfl
  obtain ⟨vr4_3, hvr4_3, ar4_3, rfl, hCr4_3⟩ := hI.hq 3 _ 36 _ rfl rfl rfl rfl
  obtain ⟨vr4_4, hvr4_4, ar4_4, rfl, hCr4_4⟩ := hI.hq 4 _ 37 _ rfl rfl rfl rfl
  obtain ⟨vr4_5, hvr4_5, br4_5, zr4_5, rfl, hnr4_5, hbr4_5, hzr4_5⟩ := hI.hq 5 _ 11 _ rfl rfl rfl rfl
  have hupd := hI.upd
  have ha := hI.act [(33, .agg zr0_2), (34, .agg ar3_4), (35, .agg ar3_9), (36, .agg ar4_3), (37, .agg ar4_4), (11, ptrTo br4_5)] (by simp [hvr4_0, hvr4_1, hvr4_2, hvr4_3, hvr4_4, hvr4_5]) (by kernel_rfl)
  clear hI hvr4_0 hvr4_1 hvr4_2 hvr4_3 hvr4_4 hvr4_5
  subst ha
  simp only [List.foldl_cons, List.foldl_nil, List.setIfInBounds_toArray, List.set_cons_zero, List.set_cons_succ]
  have hner4_5_Bxr0y0_s3_1 := apartB Bxr0y0_s3_1 hnr4_5
  have hner4_5_Bxr0y1_s3_1 := apartB Bxr0y1_s3_1 hnr4_5
  have hner4_5_Bxr0y2_s3_1 := apartB Bxr0y2_s3_1 hnr4_5
  have hner4_5_Bxr0y3_s3_1 := apartB Bxr0y3_s3_1 hnr4_5
  have hner4_5_Bxr1y5_s3_1 := apartB Bxr1y5_s3_1 hnr4_5
  have hner4_5_Bxr2y3_s3_1 := apartB Bxr2y3_s3_1 hnr4_5
  have hner4_5_Bxr3y10_s3_1 := apartB Bxr3y10_s3_1 hnr4_5
  have hner4_5_Bxr3y11_s3_1 := apartB Bxr3y11_s3_1 hnr4_5
  have hger4_5 := geB HU3_1 hnr4_5
  have Bxr0y0_4 := hupd.keepD Bxr0y0_s3_1
  have Bxr0y1_4 := hupd.keepD Bxr0y1_s3_1
  have Bxr0y2_4 := hupd.keepD Bxr0y2_s3_1
  have Bxr0y3_4 := hupd.keepD Bxr0y3_s3_1
  have Bxr1y5_4 := hupd.keepD Bxr1y5_s3_1
  have Bxr2y3_4 := hupd.keepD Bxr2y3_s3_1
  have Bxr3y10_4 := hupd.keepD Bxr3y10_s3_1
  have Bxr3y11_4 := hupd.keepD Bxr3y11_s3_1
  have Bxr4y5 := hh hbr4_5
  have HU4 := hh (HU3_1.out.drew.trans hupd)
  clear hupd
  have hf0 : left #[true, true, true, true, true, true, false] 7 = 1 := by kernel_rfl
  have hf1 : left #[true, true, true, true, true, true, false] 7 ≤ fuel := hf
  obtain ⟨fu, rfl⟩ : ∃ fu, fuel = fu + 1 := ⟨fuel - 1, by omega⟩
  clear hf hf0 hf1
  refine wpAny_storeQ 6 rfl (by kernel_rfl) rfl rfl 45 (.tmp 11) (.tmp 37) rfl br4_5 0 16 rfl ar4_4 rfl 45 zr4_5 Bxr4y5.out szN hCr4_4.size (by rw [hzr4_5.size]; exact Nat.le_of_ble_eq_true rfl) hCr4_4.one' ?_
  intro ws4_0 hs4_0 hus4_0
  rw [splice_all _ _ 16 hzr4_5.size hCr4_4.size] at hs4_0
  have Bxr0y0_s4_0 := hus4_0.keepS Bxr0y0_4 (fun e => hner4_5_Bxr0y0_s3_1.out e.symm)
  have Bxr0y1_s4_0 := hus4_0.keepS Bxr0y1_4 (fun e => hner4_5_Bxr0y1_s3_1.out e.symm)
  have Bxr0y2_s4_0 := hus4_0.keepS Bxr0y2_4 (fun e => hner4_5_Bxr0y2_s3_1.out e.symm)
  have Bxr0y3_s4_0 := hus4_0.keepS Bxr0y3_4 (fun e => hner4_5_Bxr0y3_s3_1.out e.symm)
  have Bxr1y5_s4_0 := hus4_0.keepS Bxr1y5_4 (fun e => hner4_5_Bxr1y5_s3_1.out e.symm)
  have Bxr2y3_s4_0 := hus4_0.keepS Bxr2y3_4 (fun e => hner4_5_Bxr2y3_s3_1.out e.symm)
  have Bxr3y10_s4_0 := hus4_0.keepS Bxr3y10_4 (fun e => hner4_5_Bxr3y10_s3_1.out e.symm)
  have Bxr3y11_s4_0 := hus4_0.keepS Bxr3y11_4 (fun e => hner4_5_Bxr3y11_s3_1.out e.symm)
  have Bxr4y5_s4_0 := hh hs4_0
  have HU4_0 := hh (HU4.out.step hus4_0 (fun i hi h => absurd hi (Nat.not_lt.2 (h.symm ▸ hger4_5.out))))
  clear hs4_0 hus4_0
  refine wpAny_done (by kernel_rfl) ?_ _
  refine hK4 _ _ ?_
  clear hK4
  refine wp_seq_k fun K5 hK5 => ?_
  refine wp_region_qD #[true, true, true, true, true, true, true, true, false, false] ([.val (.agg ar2_2), .val (.agg ar4_4), .like (IsC 16 RN [((z1 * z2) * (z1 * z2)) - (d * ((x1 * x2) * (y1 * y2)))]), .val (.agg ar2_2), .val (.agg ar4_4), .like (IsC 16 RN [((z1 * z2) * (z1 * z2)) + (d * ((x1 * x2) * (y1 * y2)))]), .blk ptrTo 45 (Ch 16 RN [0]), .blk ptrTo 45 (Ch 16 RN [0]), .val undef, .val undef] : List SQ) (by kernel_rfl) (by kernel_rfl) (by kernel_rfl) (by kernel_rfl) ?_ ?_
  · intro i o listed an wn ho hls hst hun hdep hI hD K' hK'
    rcases slot_cases (l := [0, 1, 2, 3, 4, 5, 6, 7]) rfl ho hst with rfl | rfl | rfl | rfl | rfl | rfl | rfl | rfl | ⟨⟨⟩⟩
    · obtain rfl := Option.some.inj ho
      have hvp : an.eval (.tmp 8) = ptrTo br2_3 := hI.oq (by kernel_rfl) rfl
      exact hI.pq hD hls rfl rfl rfl _ (run_loadQ rfl hvp wn (hI.upd.keepD Bxr2y3_s4_0).out Tryd.underlying45 rfl szN (by rw [hCr2_2.size]; exact Nat.le_of_ble_eq_true rfl)) (.val (.agg ar2_2)) rfl (congrArg Value.agg (extract_all _ 16 hCr2_2.size)) rfl hK'
    · obtain rfl := Option.some.inj ho
      have hvp : an.eval (.tmp 11) = ptrTo br4_5 := hI.oq (by kernel_rfl) rfl
      exact hI.pq hD hls rfl rfl rfl _ (run_loadQ rfl hvp wn (hI.upd.keepD Bxr4y5_s4_0).out Tryd.underlying45 rfl szN (by rw [hCr4_4.size]; exact Nat.le_of_ble_eq_true rfl)) (.val (.agg ar4_4)) rfl (congrArg Value.agg (extract_all _ 16 hCr4_4.size)) rfl hK'
    · obtain rfl := Option.some.inj ho
      obtain ⟨vp, hvp, rfl⟩ := hI.hq 0 _ 38 _ rfl rfl rfl (dp hdep 0 rfl rfl)
      obtain ⟨vq, hvq, rfl⟩ := hI.hq 1 _ 39 _ rfl rfl rfl (dp hdep 1 rfl rfl)
      exact hI.cq hD hls rfl rfl rfl 66 #[.tmp 38, .tmp 39] _ rfl #[.agg ar2_2, .agg ar4_4] (by simp [eval_of hvp, eval_of hvq]) (run_enter Tryd.func66 (by kernel_rfl) (by kernel_rfl)) (.like (IsC 16 RN [((z1 * z2) * (z1 * z2)) - (d * ((x1 * x2) * (y1 * y2)))])) rfl rfl ((rSubE hCr2_2 hCr4_4).mono fun _ _ h => h.sq) hK'
    · obtain rfl := Option.some.inj ho
      have hvp : an.eval (.tmp 8) = ptrTo br2_3 := hI.oq (by kernel_rfl) rfl
      exact hI.pq hD hls rfl rfl rfl _ (run_loadQ rfl hvp wn (hI.upd.keepD Bxr2y3_s4_0).out Tryd.underlying45 rfl szN (by rw [hCr2_2.size]; exact Nat.le_of_ble_eq_true rfl)) (.val (.agg ar2_2)) rfl (congrArg Value.agg (extract_all _ 16 hCr2_2.size)) rfl hK'
    · obtain rfl := Option.some.inj ho
      have hvp : an.eval (.tmp 11) = ptrTo br4_5 := hI.oq (by kernel_rfl) rfl
      exact hI.pq hD hls rfl rfl rfl _ (run_loadQ rfl hvp wn (hI.upd.keepD Bxr4y5_s4_0).out Tryd.underlying45 rfl szN (by rw [hCr4_4.size]; exact Nat.le_of_ble_eq_true rfl)) (.val (.agg ar4_4)) rfl (congrArg Value.agg (extract_all _ 16 hCr4_4.size)) rfl hK'
    · obtain rfl := Option.some.inj ho
      obtain ⟨vp, hvp, rfl⟩ := hI.hq 3 _ 41 _ rfl rfl rfl (dp hdep 0 rfl rfl)
      obtain ⟨vq, hvq, rfl⟩ := hI.hq 4 _ 42 _ rfl rfl rfl (dp hdep 1 rfl rfl)
      exact hI.cq hD hls rfl rfl rfl 67 #[.tmp 41, .tmp 42] _ rfl #[.agg ar2_2, .agg ar4_4] (by simp [eval_of hvp, eval_of hvq]) (run_enter Tryd.func67 (by kernel_rfl) (by kernel_rfl)) (.like (IsC 16 RN [((z1 * z2) * (z1 * z2)) + (d * ((x1 * x2) * (y1 * y2)))])) rfl rfl ((rAddE hCr2_2 hCr4_4).mono fun _ _ h => h.sq) hK'
    · obtain rfl := Option.some.inj ho
      exact hI.newQ hD hls (Nat.le_refl _) (newsQ_spec (l := [6, 7]) (by kernel_rfl) ⟨⟨_, _, rfl⟩, ⟨_, _, rfl⟩, trivial⟩) rfl rfl rfl 45 zeroN _ (run_allocQ rfl zN_run wn) rfl zN_ch hK'
    · obtain rfl := Option.some.inj ho
      exact hI.newQ hD hls (Nat.le_refl _) (newsQ_spec (l := [6, 7]) (by kernel_rfl) ⟨⟨_, _, rfl⟩, ⟨_, _, rfl⟩, trivial⟩) rfl rfl rfl 45 zeroN _ (run_allocQ rfl zN_run wn) rfl zN_ch hK'
  intro fuel an w6 hf hI
  obtain ⟨vr5_0, hvr5_0, rfl⟩ := hI.hq 0 _ 38 _ rfl rfl rfl rfl
  obtain ⟨vr5_1, hvr5_1, rfl⟩ := hI.hq 1 _ 39 _ rfl rfl rfl rfl
  obtain ⟨vr5_2, hvr5_2, ar5_2, rfl, hCr5_2⟩ := hI.hq 2 _ 40 _ rfl rfl rfl rfl
  obtain ⟨vr5_3, hvr5_3, rfl⟩ := hI.hq 3 _ 41 _ rfl rfl rfl rfl
  obtain ⟨vr5_4, hvr5_4, rfl⟩ := hI.hq 4 _ 42 _ rfl rfl rfl rfl
  obtain ⟨vr5_5, hvr5_5, ar5_5, rfl, hCr5_5⟩ := hI.hq 5 _ 43 _ rfl rfl rfl rfl
  obtain ⟨vr5_6, hvr5_6, br5_6, zr5_6, rfl, hnr5_6, hbr5_6, hzr5_6⟩ := hI.hq 6 _ 12 _ rfl rfl rfl rfl
  obtain ⟨vr5_7, hvr5_7, br5_7, zr5_7, rfl, hnr5_7, hbr5_7, hzr5_7⟩ := hI.hq 7 _ 13 _ rfl rfl rfl rfl
  have hupd := hI.upd
  have hner5_6_r5_7 := hh (show br5_6 ≠ br5_7 from fun e => hI.apart 6 7 _ _ 12 13 (by omega) rfl rfl rfl rfl rfl rfl rfl rfl (by rw [hvr5_6, hvr5_7, e]))
  have ha := hI.act [(38, .agg ar2_2), (39, .agg ar4_4), (40, .agg ar5_2), (41, .agg ar2_2), (42, .agg ar4_4), (43, .agg ar5_5), (12, ptrTo br5_6), (13, ptrTo br5_7)] (by simp [hvr5_0, hvr5_1, hvr5_2, hvr5_3, hvr5_4, hvr5_5, hvr5_6, hvr5_7]) (by kernel_rfl)
  clear hI hvr5_0 hvr5_1 hvr5_2 hvr5_3 hvr5_4 hvr5_5 hvr5_6 hvr5_7
  subst ha
  simp only [List.foldl_cons, List.foldl_nil, List.setIfInBounds_toArray, List.set_cons_zero, List.set_cons_succ]
  have hner5_6_Bxr0y0_s4_0 := apartB Bxr0y0_s4_0 hnr5_6
  have hner5_6_Bxr0y1_s4_0 := apartB Bxr0y1_s4_0 hnr5_6
  have hner5_6_Bxr0y2_s4_0 := apartB Bxr0y2_s4_0 hnr5_6
  have hner5_6_Bxr0y3_s4_0 := apartB Bxr0y3_s4_0 hnr5_6
  have hner5_6_Bxr1y5_s4_0 := apartB Bxr1y5_s4_0 hnr5_6
  have hner5_6_Bxr2y3_s4_0 := apartB Bxr2y3_s4_0 hnr5_6
  have hner5_6_Bxr3y10_s4_0 := apartB Bxr3y10_s4_0 hnr5_6
  have hner5_6_Bxr3y11_s4_0 := apartB Bxr3y11_s4_0 hnr5_6
  have hner5_6_Bxr4y5_s4_0 := apartB Bxr4y5_s4_0 hnr5_6
  have hger5_6 := geB HU4_0 hnr5_6
  have hner5_7_Bxr0y0_s4_0 := apartB Bxr0y0_s4_0 hnr5_7
  have hner5_7_Bxr0y1_s4_0 := apartB Bxr0y1_s4_0 hnr5_7
  have hner5_7_Bxr0y2_s4_0 := apartB Bxr0y2_s4_0 hnr5_7
  have hner5_7_Bxr0y3_s4_0 := apartB Bxr0y3_s4_0 hnr5_7
  have hner5_7_Bxr1y5_s4_0 := apartB Bxr1y5_s4_0 hnr5_7
  have hner5_7_Bxr2y3_s4_0 := apartB Bxr2y3_s4_0 hnr5_7
  have hner5_7_Bxr3y10_s4_0 := apartB Bxr3y10_s4_0 hnr5_7
  have hner5_7_Bxr3y11_s4_0 := apartB Bxr3y11_s4_0 hnr5_7
  have hner5_7_Bxr4y5_s4_0 := apartB Bxr4y5_s4_0 hnr5_7
  have hger5_7 := geB HU4_0 hnr5_7
  have Bxr0y0_5 := hupd.keepD Bxr0y0_s4_0
  have Bxr0y1_5 := hupd.keepD Bxr0y1_s4_0
  have Bxr0y2_5 := hupd.keepD Bxr0y2_s4_0
  have Bxr0y3_5 := hupd.keepD Bxr0y3_s4_0
  have Bxr1y5_5 := hupd.keepD Bxr1y5_s4_0
  have Bxr2y3_5 := hupd.keepD Bxr2y3_s4_0
  have Bxr3y10_5 := hupd.keepD Bxr3y10_s4_0
  have Bxr3y11_5 := hupd.keepD Bxr3y11_s4_0
  have Bxr4y5_5 := hupd.keepD Bxr4y5_s4_0
  have Bxr5y6 := hh hbr5_6
  have Bxr5y7 := hh hbr5_7
  have HU5 := hh (HU4_0.out.drew.trans hupd)
  clear hupd
  have hf0 : left #[true, true, true, true, true, true, true, true, false, false] 10 = 2 := by kernel_rfl
  have hf1 : left #[true, true, true, true, true, true, true, true, false, false] 10 ≤ fuel := hf
  obtain ⟨fu, rfl⟩ : ∃ fu, fuel = fu + 2 := ⟨fuel - 2, by omega⟩
  clear hf hf0 hf1
  refine wpAny_storeQ 8 rfl (by kernel_rfl) rfl rfl 45 (.tmp 12) (.tmp 40) rfl br5_6 0 16 rfl ar5_2 rfl 45 zr5_6 Bxr5y6.out szN hCr5_2.size (by rw [hzr5_6.size]; exact Nat.le_of_ble_eq_true rfl) hCr5_2.one' ?_
  intro ws5_0 hs5_0 hus5_0
  rw [splice_all _ _ 16 hzr5_6.size hCr5_2.size] at hs5_0
  have Bxr0y0_s5_0 := hus5_0.keepS Bxr0y0_5 (fun e => hner5_6_Bxr0y0_s4_0.out e.symm)
  have Bxr0y1_s5_0 := hus5_0.keepS Bxr0y1_5 (fun e => hner5_6_Bxr0y1_s4_0.out e.symm)
  have Bxr0y2_s5_0 := hus5_0.keepS Bxr0y2_5 (fun e => hner5_6_Bxr0y2_s4_0.out e.symm)
  have Bxr0y3_s5_0 := hus5_0.keepS Bxr0y3_5 (fun e => hner5_6_Bxr0y3_s4_0.out e.symm)
  have Bxr1y5_s5_0 := hus5_0.keepS Bxr1y5_5 (fun e => hner5_6_Bxr1y5_s4_0.out e.symm)
  have Bxr2y3_s5_0 := hus5_0.keepS Bxr2y3_5 (fun e => hner5_6_Bxr2y3_s4_0.out e.symm)
  have Bxr3y10_s5_0 := hus5_0.keepS Bxr3y10_5 (fun e => hner5_6_Bxr3y10_s4_0.out e.symm)
  have Bxr3y11_s5_0 := hus5_0.keepS Bxr3y11_5 (fun e => hner5_6_Bxr3y11_s4_0.out e.symm)
  have Bxr4y5_s5_0 := hus5_0.keepS Bxr4y5_5 (fun e => hner5_6_Bxr4y5_s4_0.out e.symm)
  have Bxr5y7_s5_0 := hus5_0.keepS Bxr5y7 (fun e => hner5_6_r5_7.out e.symm)
  have Bxr5y6_s5_0 := hh hs5_0
  have HU5_0 := hh (HU5.out.step hus5_0 (fun i hi h => absurd hi (Nat.not_lt.2 (h.symm ▸ hger5_6.out))))
  clear hs5_0 hus5_0
  refine wpAny_storeQ 9 rfl (by kernel_rfl) rfl rfl 45 (.tmp 13) (.tmp 43) rfl br5_7 0 16 rfl ar5_5 rfl 45 zr5_7 Bxr5y7_s5_0.out szN hCr5_5.size (by rw [hzr5_7.size]; exact Nat.le_of_ble_eq_true rfl) hCr5_5.one' ?_
  intro ws5_1 hs5_1 hus5_1
  rw [splice_all _ _ 16 hzr5_7.size hCr5_5.size] at hs5_1
  have Bxr0y0_s5_1 := hus5_1.keepS Bxr0y0_s5_0 (fun e => hner5_7_Bxr0y0_s4_0.out e.symm)
  have Bxr0y1_s5_1 := hus5_1.keepS Bxr0y1_s5_0 (fun e => hner5_7_Bxr0y1_s4_0.out e.symm)
  have Bxr0y2_s5_1 := hus5_1.keepS Bxr0y2_s5_0 (fun e => hner5_7_Bxr0y2_s4_0.out e.symm)
  have Bxr0y3_s5_1 := hus5_1.keepS Bxr0y3_s5_0 (fun e => hner5_7_Bxr0y3_s4_0.out e.symm)
  have Bxr1y5_s5_1 := hus5_1.keepS Bxr1y5_s5_0 (fun e => hner5_7_Bxr1y5_s4_0.out e.symm)
  have Bxr2y3_s5_1 := hus5_1.keepS Bxr2y3_s5_0 (fun e => hner5_7_Bxr2y3_s4_0.out e.symm)
  have Bxr3y10_s5_1 := hus5_1.keepS Bxr3y10_s5_0 (fun e => hner5_7_Bxr3y10_s4_0.out e.symm)
  have Bxr3y11_s5_1 := hus5_1.keepS Bxr3y11_s5_0 (fun e => hner5_7_Bxr3y11_s4_0.out e.symm)
  have Bxr4y5_s5_1 := hus5_1.keepS Bxr4y5_s5_0 (fun e => hner5_7_Bxr4y5_s4_0.out e.symm)
  have Bxr5y6_s5_1 := hus5_1.keepS Bxr5y6_s5_0 (fun e => hner5_6_r5_7.out e)
  have Bxr5y7_s5_1 := hh hs5_1
  have HU5_1 := hh (HU5_0.out.step hus5_1 (fun i hi h => absurd hi (Nat.not_lt.2 (h.symm ▸ hger5_7.out))))
  clear hs5_1 hus5_1
  refine wpAny_done (by kernel_rfl) ?_ _
  refine hK5 _ _ ?_
  clear hK5
  refine wp_seq_k fun K6 hK6 => ?_
  refine wp_region_qD #[true, true, true, true, true, true, true, true, true, true, true, true, true, true, true, true, false] ([.val (.pointer (some ⟨br0_0, 0 + 0, none⟩)), .val (.agg (zr0_0.extract (0 + 0) (0 + 0 + 16))), .val (.pointer (some ⟨br0_0, 0 + 16, none⟩)), .val (.agg (zr0_0.extract (0 + 16) (0 + 16 + 16))), .like (IsC 16 RN [x1 + y1]), .val (.pointer (some ⟨br0_1, 0 + 0, none⟩)), .val (.agg (zr0_1.extract (0 + 0) (0 + 0 + 16))), .val (.pointer (some ⟨br0_1, 0 + 16, none⟩)), .val (.agg (zr0_1.extract (0 + 16) (0 + 16 + 16))), .like (IsC 16 RN [x2 + y2]), .like (IsC 16 RN [(x1 + y1) * (x2 + y2)]), .val (.agg ar3_4), .like (IsC 16 RN [((x1 + y1) * (x2 + y2)) - (x1 * x2)]), .val (.agg ar3_9), .like (IsC 16 RN [(((x1 + y1) * (x2 + y2)) - (x1 * x2)) - (y1 * y2)]), .blk ptrTo 45 (Ch 16 RN [0]), .val undef] : List SQ) (by kernel_rfl) (by kernel_rfl) (by kernel_rfl) (by kernel_rfl) ?_ ?_
  · intro i o listed an wn ho hls hst hun hdep hI hD K' hK'
    rcases slot_cases (l := [0, 1, 2, 3, 4, 5, 6, 7, 8, 9, 10, 11, 12, 13, 14, 15]) rfl ho hst with rfl | rfl | rfl | rfl | rfl | rfl | rfl | rfl | rfl | rfl | rfl | rfl | rfl | rfl | rfl | rfl | ⟨⟨⟩⟩
    · obtain rfl := Option.some.inj ho
      have hvp : an.eval (.tmp 3) = ptrTo br0_0 := hI.oq (by kernel_rfl) rfl
      exact hI.pq hD hls rfl rfl rfl _ (run_fieldQ (g := br0_0) (off := 0) (k := 0) rfl hvp Tryd.underlying47 rfl (by rfl) szN wn) (.val (.pointer (some ⟨br0_0, 0 + 0, none⟩))) rfl rfl rfl hK'
    · obtain rfl := Option.some.inj ho
      obtain ⟨vp, hvp, rfl⟩ := hI.hq 0 _ 44 _ rfl rfl rfl (dp hdep 0 rfl rfl)
      exact hI.pq hD hls rfl rfl rfl _ (run_loadQ rfl (eval_of hvp) wn (hI.upd.keepD Bxr0y0_s5_1).out Tryd.underlying45 rfl szN (by rw [hzr0_0.size]; exact Nat.le_of_ble_eq_true rfl)) (.val (.agg (zr0_0.extract (0 + 0) (0 + 0 + 16)))) rfl rfl rfl hK'
    · obtain rfl := Option.some.inj ho
      have hvp : an.eval (.tmp 3) = ptrTo br0_0 := hI.oq (by kernel_rfl) rfl
      exact hI.pq hD hls rfl rfl rfl _ (run_fieldQ (g := br0_0) (off := 0) (k := 16) rfl hvp Tryd.underlying47 rfl (by rfl) szN wn) (.val (.pointer (some ⟨br0_0, 0 + 16, none⟩))) rfl rfl rfl hK'
    · obtain rfl := Option.some.inj ho
      obtain ⟨vp, hvp, rfl⟩ := hI.hq 2 _ 46 _ rfl rfl rfl (dp hdep 0 rfl rfl)
      exact hI.pq hD hls rfl rfl rfl _ (run_loadQ rfl (eval_of hvp) wn (hI.upd.keepD Bxr0y0_s5_1).out Tryd.underlying45 rfl szN (by rw [hzr0_0.size]; exact Nat.le_of_ble_eq_true rfl)) (.val (.agg (zr0_0.extract (0 + 16) (0 + 16 + 16)))) rfl rfl rfl hK'
    · obtain rfl := Option.some.inj ho
      obtain ⟨vp, hvp, rfl⟩ := hI.hq 1 _ 45 _ rfl rfl rfl (dp hdep 0 rfl rfl)
      obtain ⟨vq, hvq, rfl⟩ := hI.hq 3 _ 47 _ rfl rfl rfl (dp hdep 1 rfl rfl)
      exact hI.cq hD hls rfl rfl rfl 67 #[.tmp 45, .tmp 47] _ rfl #[.agg (zr0_0.extract (0 + 0) (0 + 0 + 16)), .agg (zr0_0.extract (0 + 16) (0 + 16 + 16))] (by simp [eval_of hvp, eval_of hvq]) (run_enter Tryd.func67 (by kernel_rfl) (by kernel_rfl)) (.like (IsC 16 RN [x1 + y1])) rfl rfl ((rAddE (hzr0_0.at 0 (0 + 0) rfl rfl) (hzr0_0.at 1 (0 + 16) rfl rfl)).mono fun _ _ h => h.sq) hK'
    · obtain rfl := Option.some.inj ho
      have hvp : an.eval (.tmp 4) = ptrTo br0_1 := hI.oq (by kernel_rfl) rfl
      exact hI.pq hD hls rfl rfl rfl _ (run_fieldQ (g := br0_1) (off := 0) (k := 0) rfl hvp Tryd.underlying47 rfl (by rfl) szN wn) (.val (.pointer (some ⟨br0_1, 0 + 0, none⟩))) rfl rfl rfl hK'
    · obtain rfl := Option.some.inj ho
      obtain ⟨vp, hvp, rfl⟩ := hI.hq 5 _ 49 _ rfl rfl rfl (dp hdep 0 rfl rfl)
      exact hI.pq hD hls rfl rfl rfl _ (run_loadQ rfl (eval_of hvp) wn (hI.upd.keepD Bxr0y1_s5_1).out Tryd.underlying45 rfl szN (by rw [hzr0_1.size]; exact Nat.le_of_ble_eq_true rfl)) (.val (.agg (zr0_1.extract (0 + 0) (0 + 0 + 16)))) rfl rfl rfl hK'
    · obtain rfl := Option.some.inj ho
      have hvp : an.eval (.tmp 4) = ptrTo br0_1 := hI.oq (by kernel_rfl) rfl
      exact hI.pq hD hls rfl rfl rfl _ (run_fieldQ (g := br0_1) (off := 0) (k := 16) rfl hvp Tryd.underlying47 rfl (by rfl) szN wn) (.val (.pointer (some ⟨br0_1, 0 + 16, none⟩))) rfl rfl rfl hK'
    · obtain rfl := Option.some.inj ho
      obtain ⟨vp, hvp, rfl⟩ := hI.hq 7 _ 51 _ rfl rfl rfl (dp hdep 0 rfl rfl)
      exact hI.pq hD hls rfl rfl rfl _ (run_loadQ rfl (eval_of hvp) wn (hI.upd.keepD Bxr0y1_s5_1).out Tryd.underlying45 rfl szN (by rw [hzr0_1.size]; exact Nat.le_of_ble_eq_true rfl)) (.val (.agg (zr0_1.extract (0 + 16) (0 + 16 + 16)))) rfl rfl rfl hK'
    · obtain rfl := Option.some.inj ho
      obtain ⟨vp, hvp, rfl⟩ := hI.hq 6 _ 50 _ rfl rfl rfl (dp hdep 0 rfl rfl)
      obtain ⟨vq, hvq, rfl⟩ := hI.hq 8 _ 52 _ rfl rfl rfl (dp hdep 1 rfl rfl)
      exact hI.cq hD hls rfl rfl rfl 67 #[.tmp 50, .tmp 52] _ rfl #[.agg (zr0_1.extract (0 + 0) (0 + 0 + 16)), .agg (zr0_1.extract (0 + 16) (0 + 16 + 16))] (by simp [eval_of hvp, eval_of hvq]) (run_enter Tryd.func67 (by kernel_rfl) (by kernel_rfl)) (.like (IsC 16 RN [x2 + y2])) rfl rfl ((rAddE (hzr0_1.at 0 (0 + 0) rfl rfl) (hzr0_1.at 1 (0 + 16) rfl rfl)).mono fun _ _ h => h.sq) hK'
    · obtain rfl := Option.some.inj ho
      obtain ⟨vp, hvp, ap, rfl, hCp⟩ := hI.hq 4 _ 48 _ rfl rfl rfl (dp hdep 0 rfl rfl)
      obtain ⟨vq, hvq, aq, rfl, hCq⟩ := hI.hq 9 _ 53 _ rfl rfl rfl (dp hdep 1 rfl rfl)
      exact hI.cq hD hls rfl rfl rfl 58 #[.tmp 48, .tmp 53] _ rfl #[.agg ap, .agg aq] (by simp [eval_of hvp, eval_of hvq]) (run_enter Tryd.func58 (by kernel_rfl) (by kernel_rfl)) (.like (IsC 16 RN [(x1 + y1) * (x2 + y2)])) rfl rfl ((rMulE hCp hCq).mono fun _ _ h => h.sq) hK'
    · obtain rfl := Option.some.inj ho
      have hvp : an.eval (.tmp 9) = ptrTo br3_10 := hI.oq (by kernel_rfl) rfl
      exact hI.pq hD hls rfl rfl rfl _ (run_loadQ rfl hvp wn (hI.upd.keepD Bxr3y10_s5_1).out Tryd.underlying45 rfl szN (by rw [hCr3_4.size]; exact Nat.le_of_ble_eq_true rfl)) (.val (.agg ar3_4)) rfl (congrArg Value.agg (extract_all _ 16 hCr3_4.size)) rfl hK'
    · obtain rfl := Option.some.inj ho
      obtain ⟨vp, hvp, ap, rfl, hCp⟩ := hI.hq 10 _ 54 _ rfl rfl rfl (dp hdep 0 rfl rfl)
      obtain ⟨vq, hvq, rfl⟩ := hI.hq 11 _ 55 _ rfl rfl rfl (dp hdep 1 rfl rfl)
      exact hI.cq hD hls rfl rfl rfl 66 #[.tmp 54, .tmp 55] _ rfl #[.agg ap, .agg ar3_4] (by simp [eval_of hvp, eval_of hvq]) (run_enter Tryd.func66 (by kernel_rfl) (by kernel_rfl)) (.like (IsC 16 RN [((x1 + y1) * (x2 + y2)) - (x1 * x2)])) rfl rfl ((rSubE hCp hCr3_4).mono fun _ _ h => h.sq) hK'
    · obtain rfl := Option.some.inj ho
      have hvp : an.eval (.tmp 10) = ptrTo br3_11 := hI.oq (by kernel_rfl) rfl
      exact hI.pq hD hls rfl rfl rfl _ (run_loadQ rfl hvp wn (hI.upd.keepD Bxr3y11_s5_1).out Tryd.underlying45 rfl szN (by rw [hCr3_9.size]; exact Nat.le_of_ble_eq_true rfl)) (.val (.agg ar3_9)) rfl (congrArg Value.agg (extract_all _ 16 hCr3_9.size)) rfl hK'
    · obtain rfl := Option.some.inj ho
      obtain ⟨vp, hvp, ap, rfl, hCp⟩ := hI.hq 12 _ 56 _ rfl rfl rfl (dp hdep 0 rfl rfl)
      obtain ⟨vq, hvq, rfl⟩ := hI.hq 13 _ 57 _ rfl rfl rfl (dp hdep 1 rfl rfl)
      exact hI.cq hD hls rfl rfl rfl 66 #[.tmp 56, .tmp 57] _ rfl #[.agg ap, .agg ar3_9] (by simp [eval_of hvp, eval_of hvq]) (run_enter Tryd.func66 (by kernel_rfl) (by kernel_rfl)) (.like (IsC 16 RN [(((x1 + y1) * (x2 + y2)) - (x1 * x2)) - (y1 * y2)])) rfl rfl ((rSubE hCp hCr3_9).mono fun _ _ h => h.sq) hK'
    · obtain rfl := Option.some.inj ho
      exact hI.newQ hD hls (Nat.le_refl _) (newsQ_spec (l := [15]) (by kernel_rfl) ⟨⟨_, _, rfl⟩, trivial⟩) rfl rfl rfl 45 zeroN _ (run_allocQ rfl zN_run wn) rfl zN_ch hK'
  intro fuel an w7 hf hI
  obtain ⟨vr6_0, hvr6_0, rfl⟩ := hI.hq 0 _ 44 _ rfl rfl rfl rfl
  obtain ⟨vr6_1, hvr6_1, rfl⟩ := hI.hq 1 _ 45 _ rfl rfl rfl rfl
  obtain ⟨vr6_2, hvr6_2, rfl⟩ := hI.hq 2 _ 46 _ rfl rfl rfl rfl
  obtain ⟨vr6_3, hvr6_3, rfl⟩ := hI.hq 3 _ 47 _ rfl rfl rfl rfl
  obtain ⟨vr6_4, hvr6_4, ar6_4, rfl, hCr6_4⟩ := hI.hq 4 _ 48 _ rfl rfl rfl rfl
  obtain ⟨vr6_5, hvr6_5, rfl⟩ := hI.hq 5 _ 49 _ rfl rfl rfl rfl
  obtain ⟨vr6_6, hvr6_6, rfl⟩ := hI.hq 6 _ 50 _ rfl rfl rfl rfl
  obtain ⟨vr6_7, hvr6_7, rfl⟩ := hI.hq 7 _ 51 _ rfl rfl rfl rfl
  obtain ⟨vr6_8, hvr6_8, rfl⟩ := hI.hq 8 _ 52 _ rfl rfl rfl rfl
  obtain ⟨vr6_9, hvr6_9, ar6_9, rfl, hCr6_9⟩ := hI.hq 9 _ 53 _ rfl rfl rfl rfl
  obtain ⟨vr6_10, hvr6_10, ar6_10, rfl, hCr6_10⟩ := hI.hq 10 _ 54 _ rfl rfl rfl rfl
  obtain ⟨vr6_11, hvr6_11, rfl⟩ := hI.hq 11 _ 55 _ rfl rfl rfl rfl
  obtain ⟨vr6_12, hvr6_12, ar6_12, rfl, hCr6_12⟩ := hI.hq 12 _ 56 _ rfl rfl rfl rfl
  obtain ⟨vr6_13, hvr6_13, rfl⟩ := hI.hq 13 _ 57 _ rfl rfl rfl rfl
  obtain ⟨vr6_14, hvr6_14, ar6_14, rfl, hCr6_14⟩ := hI.hq 14 _ 58 _ rfl rfl rfl rfl
  obtain ⟨vr6_15, hvr6_15, br6_15, zr6_15, rfl, hnr6_15, hbr6_15, hzr6_15⟩ := hI.hq 15 _ 14 _ rfl rfl rfl rfl
  have hupd := hI.upd
  have ha := hI.act [(44, .pointer (some ⟨br0_0, 0 + 0, none⟩)), (45, .agg (zr0_0.extract (0 + 0) (0 + 0 + 16))), (46, .pointer (some ⟨br0_0, 0 + 16, none⟩)), (47, .agg (zr0_0.extract (0 + 16) (0 + 16 + 16))), (48, .agg ar6_4), (49, .pointer (some ⟨br0_1, 0 + 0, none⟩)), (50, .agg (zr0_1.extract (0 + 0) (0 + 0 + 16))), (51, .pointer (some ⟨br0_1, 0 + 16, none⟩)), (52, .agg (zr0_1.extract (0 + 16) (0 + 16 + 16))), (53, .agg ar6_9), (54, .agg ar6_10), (55, .agg ar3_4), (56, .agg ar6_12), (57, .agg ar3_9), (58, .agg ar6_14), (14, ptrTo br6_15)] (by simp [hvr6_0, hvr6_1, hvr6_2, hvr6_3, hvr6_4, hvr6_5, hvr6_6, hvr6_7, hvr6_8, hvr6_9, hvr6_10, hvr6_11, hvr6_12, hvr6_13, hvr6_14, hvr6_15]) (by kernel_rfl)
  clear hI hvr6_0 hvr6_1 hvr6_2 hvr6_3 hvr6_4 hvr6_5 hvr6_6 hvr6_7 hvr6_8 hvr6_9 hvr6_10 hvr6_11 hvr6_12 hvr6_13 hvr6_14 hvr6_15
  subst ha
  simp only [List.foldl_cons, List.foldl_nil, List.setIfInBounds_toArray, List.set_cons_zero, List.set_cons_succ]
  have hner6_15_Bxr0y0_s5_1 := apartB Bxr0y0_s5_1 hnr6_15
  have hner6_15_Bxr0y1_s5_1 := apartB Bxr0y1_s5_1 hnr6_15
  have hner6_15_Bxr0y2_s5_1 := apartB Bxr0y2_s5_1 hnr6_15
  have hner6_15_Bxr0y3_s5_1 := apartB Bxr0y3_s5_1 hnr6_15
  have hner6_15_Bxr1y5_s5_1 := apartB Bxr1y5_s5_1 hnr6_15
  have hner6_15_Bxr2y3_s5_1 := apartB Bxr2y3_s5_1 hnr6_15
  have hner6_15_Bxr3y10_s5_1 := apartB Bxr3y10_s5_1 hnr6_15
  have hner6_15_Bxr3y11_s5_1 := apartB Bxr3y11_s5_1 hnr6_15
  have hner6_15_Bxr4y5_s5_1 := apartB Bxr4y5_s5_1 hnr6_15
  have hner6_15_Bxr5y6_s5_1 := apartB Bxr5y6_s5_1 hnr6_15
  have hner6_15_Bxr5y7_s5_1 := apartB Bxr5y7_s5_1 hnr6_15
  have hger6_15 := geB HU5_1 hnr6_15
  have Bxr0y0_6 := hupd.keepD Bxr0y0_s5_1
  have Bxr0y1_6 := hupd.keepD Bxr0y1_s5_1
  have Bxr0y2_6 := hupd.keepD Bxr0y2_s5_1
  have Bxr0y3_6 := hupd.keepD Bxr0y3_s5_1
  have Bxr1y5_6 := hupd.keepD Bxr1y5_s5_1
  have Bxr2y3_6 := hupd.keepD Bxr2y3_s5_1
  have Bxr3y10_6 := hupd.keepD Bxr3y10_s5_1
  have Bxr3y11_6 := hupd.keepD Bxr3y11_s5_1
  have Bxr4y5_6 := hupd.keepD Bxr4y5_s5_1
  have Bxr5y6_6 := hupd.keepD Bxr5y6_s5_1
  have Bxr5y7_6 := hupd.keepD Bxr5y7_s5_1
  have Bxr6y15 := hh hbr6_15
  have HU6 := hh (HU5_1.out.drew.trans hupd)
  clear hupd
  have hf0 : left #[true, true, true, true, true, true, true, true, true, true, true, true, true, true, true, true, false] 17 = 1 := by kernel_rfl
  have hf1 : left #[true, true, true, true, true, true, true, true, true, true, true, true, true, true, true, true, false] 17 ≤ fuel := hf
  obtain ⟨fu, rfl⟩ : ∃ fu, fuel = fu + 1 := ⟨fuel - 1, by omega⟩
  clear hf hf0 hf1
  refine wpAny_storeQ 16 rfl (by kernel_rfl) rfl rfl 45 (.tmp 14) (.tmp 58) rfl br6_15 0 16 rfl ar6_14 rfl 45 zr6_15 Bxr6y15.out szN hCr6_14.size (by rw [hzr6_15.size]; exact Nat.le_of_ble_eq_true rfl) hCr6_14.one' ?_
  intro ws6_0 hs6_0 hus6_0
  rw [splice_all _ _ 16 hzr6_15.size hCr6_14.size] at hs6_0
  have Bxr0y0_s6_0 := hus6_0.keepS Bxr0y0_6 (fun e => hner6_15_Bxr0y0_s5_1.out e.symm)
  have Bxr0y1_s6_0 := hus6_0.keepS Bxr0y1_6 (fun e => hner6_15_Bxr0y1_s5_1.out e.symm)
  have Bxr0y2_s6_0 := hus6_0.keepS Bxr0y2_6 (fun e => hner6_15_Bxr0y2_s5_1.out e.symm)
  have Bxr0y3_s6_0 := hus6_0.keepS Bxr0y3_6 (fun e => hner6_15_Bxr0y3_s5_1.out e.symm)
  have Bxr1y5_s6_0 := hus6_0.keepS Bxr1y5_6 (fun e => hner6_15_Bxr1y5_s5_1.out e.symm)
  have Bxr2y3_s6_0 := hus6_0.keepS Bxr2y3_6 (fun e => hner6_15_Bxr2y3_s5_1.out e.symm)
  have Bxr3y10_s6_0 := hus6_0.keepS Bxr3y10_6 (fun e => hner6_15_Bxr3y10_s5_1.out e.symm)
  have Bxr3y11_s6_0 := hus6_0.keepS Bxr3y11_6 (fun e => hner6_15_Bxr3y11_s5_1.out e.symm)
  have Bxr4y5_s6_0 := hus6_0.keepS Bxr4y5_6 (fun e => hner6_15_Bxr4y5_s5_1.out e.symm)
  have Bxr5y6_s6_0 := hus6_0.keepS Bxr5y6_6 (fun e => hner6_15_Bxr5y6_s5_1.out e.symm)
  have Bxr5y7_s6_0 := hus6_0.keepS Bxr5y7_6 (fun e => hner6_15_Bxr5y7_s5_1.out e.symm)
  have Bxr6y15_s6_0 := hh hs6_0
  have HU6_0 := hh (HU6.out.step hus6_0 (fun i hi h => absurd hi (Nat.not_lt.2 (h.symm ▸ hger6_15.out))))
  clear hs6_0 hus6_0
  refine wpAny_done (by kernel_rfl) ?_ _
  refine hK6 _ _ ?_
  clear hK6
  refine wp_seq_k fun K7 hK7 => ?_
  refine wp_region_qD #[true, true, true, true, true, true, true, true, true, true, true, true, true, true, true, true, false] ([.val (.agg ar1_4), .val (.agg ar5_2), .like (IsC 16 RN [(z1 * z2) * (((z1 * z2) * (z1 * z2)) - (d * ((x1 * x2) * (y1 * y2))))]), .val (.agg ar6_14), .like (IsC 16 RN [((z1 * z2) * (((z1 * z2) * (z1 * z2)) - (d * ((x1 * x2) * (y1 * y2))))) * ((((x1 + y1) * (x2 + y2)) - (x1 * x2)) - (y1 * y2))]), .val (.agg ar1_4), .val (.agg ar5_5), .like (IsC 16 RN [(z1 * z2) * (((z1 * z2) * (z1 * z2)) + (d * ((x1 * x2) * (y1 * y2))))]), .val (.agg ar3_9), .val (.agg ar3_4), .like (IsC 16 RN [(y1 * y2) + (x1 * x2)]), .like (IsC 16 RN [((z1 * z2) * (((z1 * z2) * (z1 * z2)) + (d * ((x1 * x2) * (y1 * y2))))) * ((y1 * y2) + (x1 * x2))]), .val (.agg ar5_2), .val (.agg ar5_5), .like (IsC 16 RN [(((z1 * z2) * (z1 * z2)) - (d * ((x1 * x2) * (y1 * y2)))) * (((z1 * z2) * (z1 * z2)) + (d * ((x1 * x2) * (y1 * y2))))]), .like (IsC 16 RN [((z1 * z2) * (((z1 * z2) * (z1 * z2)) - (d * ((x1 * x2) * (y1 * y2))))) * ((((x1 + y1) * (x2 + y2)) - (x1 * x2)) - (y1 * y2)), ((z1 * z2) * (((z1 * z2) * (z1 * z2)) + (d * ((x1 * x2) * (y1 * y2))))) * ((y1 * y2) + (x1 * x2)), (((z1 * z2) * (z1 * z2)) - (d * ((x1 * x2) * (y1 * y2)))) * (((z1 * z2) * (z1 * z2)) + (d * ((x1 * x2) * (y1 * y2))))]), .val undef] : List SQ) (by kernel_rfl) (by kernel_rfl) (by kernel_rfl) (by kernel_rfl) ?_ ?_
  · intro i o listed an wn ho hls hst hun hdep hI hD K' hK'
    rcases slot_cases (l := [0, 1, 2, 3, 4, 5, 6, 7, 8, 9, 10, 11, 12, 13, 14, 15]) rfl ho hst with rfl | rfl | rfl | rfl | rfl | rfl | rfl | rfl | rfl | rfl | rfl | rfl | rfl | rfl | rfl | rfl | ⟨⟨⟩⟩
    · obtain rfl := Option.some.inj ho
      have hvp : an.eval (.tmp 7) = ptrTo br1_5 := hI.oq (by kernel_rfl) rfl
      exact hI.pq hD hls rfl rfl rfl _ (run_loadQ rfl hvp wn (hI.upd.keepD Bxr1y5_s6_0).out Tryd.underlying45 rfl szN (by rw [hCr1_4.size]; exact Nat.le_of_ble_eq_true rfl)) (.val (.agg ar1_4)) rfl (congrArg Value.agg (extract_all _ 16 hCr1_4.size)) rfl hK'
    · obtain rfl := Option.some.inj ho
      have hvp : an.eval (.tmp 12) = ptrTo br5_6 := hI.oq (by kernel_rfl) rfl
      exact hI.pq hD hls rfl rfl rfl _ (run_loadQ rfl hvp wn (hI.upd.keepD Bxr5y6_s6_0).out Tryd.underlying45 rfl szN (by rw [hCr5_2.size]; exact Nat.le_of_ble_eq_true rfl)) (.val (.agg ar5_2)) rfl (congrArg Value.agg (extract_all _ 16 hCr5_2.size)) rfl hK'
    · obtain rfl := Option.some.inj ho
      obtain ⟨vp, hvp, rfl⟩ := hI.hq 0 _ 59 _ rfl rfl rfl (dp hdep 0 rfl rfl)
      obtain ⟨vq, hvq, rfl⟩ := hI.hq 1 _ 60 _ rfl rfl rfl (dp hdep 1 rfl rfl)
      exact hI.cq hD hls rfl rfl rfl 58 #[.tmp 59, .tmp 60] _ rfl #[.agg ar1_4, .agg ar5_2] (by simp [eval_of hvp, eval_of hvq]) (run_enter Tryd.func58 (by kernel_rfl) (by kernel_rfl)) (.like (IsC 16 RN [(z1 * z2) * (((z1 * z2) * (z1 * z2)) - (d * ((x1 * x2) * (y1 * y2))))])) rfl rfl ((rMulE hCr1_4 hCr5_2).mono fun _ _ h => h.sq) hK'
    · obtain rfl := Option.some.inj ho
      have hvp : an.eval (.tmp 14) = ptrTo br6_15 := hI.oq (by kernel_rfl) rfl
      exact hI.pq hD hls rfl rfl rfl _ (run_loadQ rfl hvp wn (hI.upd.keepD Bxr6y15_s6_0).out Tryd.underlying45 rfl szN (by rw [hCr6_14.size]; exact Nat.le_of_ble_eq_true rfl)) (.val (.agg ar6_14)) rfl (congrArg Value.agg (extract_all _ 16 hCr6_14.size)) rfl hK'
    · obtain rfl := Option.some.inj ho
      obtain ⟨vp, hvp, ap, rfl, hCp⟩ := hI.hq 2 _ 61 _ rfl rfl rfl (dp hdep 0 rfl rfl)
      obtain ⟨vq, hvq, rfl⟩ := hI.hq 3 _ 62 _ rfl rfl rfl (dp hdep 1 rfl rfl)
      exact hI.cq hD hls rfl rfl rfl 58 #[.tmp 61, .tmp 62] _ rfl #[.agg ap, .agg ar6_14] (by simp [eval_of hvp, eval_of hvq]) (run_enter Tryd.func58 (by kernel_rfl) (by kernel_rfl)) (.like (IsC 16 RN [((z1 * z2) * (((z1 * z2) * (z1 * z2)) - (d * ((x1 * x2) * (y1 * y2))))) * ((((x1 + y1) * (x2 + y2)) - (x1 * x2)) - (y1 * y2))])) rfl rfl ((rMulE hCp hCr6_14).mono fun _ _ h => h.sq) hK'
    · obtain rfl := Option.some.inj ho
      have hvp : an.eval (.tmp 7) = ptrTo br1_5 := hI.oq (by kernel_rfl) rfl
      exact hI.pq hD hls rfl rfl rfl _ (run_loadQ rfl hvp wn (hI.upd.keepD Bxr1y5_s6_0).out Tryd.underlying45 rfl szN (by rw [hCr1_4.size]; exact Nat.le_of_ble_eq_true rfl)) (.val (.agg ar1_4)) rfl (congrArg Value.agg (extract_all _ 16 hCr1_4.size)) rfl hK'
    · obtain rfl := Option.some.inj ho
      have hvp : an.eval (.tmp 13) = ptrTo br5_7 := hI.oq (by kernel_rfl) rfl
      exact hI.pq hD hls rfl rfl rfl _ (run_loadQ rfl hvp wn (hI.upd.keepD Bxr5y7_s6_0).out Tryd.underlying45 rfl szN (by rw [hCr5_5.size]; exact Nat.le_of_ble_eq_true rfl)) (.val (.agg ar5_5)) rfl (congrArg Value.agg (extract_all _ 16 hCr5_5.size)) rfl hK'
    · obtain rfl := Option.some.inj ho
      obtain ⟨vp, hvp, rfl⟩ := hI.hq 5 _ 64 _ rfl rfl rfl (dp hdep 0 rfl rfl)
      obtain ⟨vq, hvq, rfl⟩ := hI.hq 6 _ 65 _ rfl rfl rfl (dp hdep 1 rfl rfl)
      exact hI.cq hD hls rfl rfl rfl 58 #[.tmp 64, .tmp 65] _ rfl #[.agg ar1_4, .agg ar5_5] (by simp [eval_of hvp, eval_of hvq]) (run_enter Tryd.func58 (by kernel_rfl) (by kernel_rfl)) (.like (IsC 16 RN [(z1 * z2) * (((z1 * z2) * (z1 * z2)) + (d * ((x1 * x2) * (y1 * y2))))])) rfl rfl ((rMulE hCr1_4 hCr5_5).mono fun _ _ h => h.sq) hK'
    · obtain rfl := Option.some.inj ho
      have hvp : an.eval (.tmp 10) = ptrTo br3_11 := hI.oq (by kernel_rfl) rfl
      exact hI.pq hD hls rfl rfl rfl _ (run_loadQ rfl hvp wn (hI.upd.keepD Bxr3y11_s6_0).out Tryd.underlying45 rfl szN (by rw [hCr3_9.size]; exact Nat.le_of_ble_eq_true rfl)) (.val (.agg ar3_9)) rfl (congrArg Value.agg (extract_all _ 16 hCr3_9.size)) rfl hK'
    · obtain rfl := Option.some.inj ho
      have hvp : an.eval (.tmp 9) = ptrTo br3_10 := hI.oq (by kernel_rfl) rfl
      exact hI.pq hD hls rfl rfl rfl _ (run_loadQ rfl hvp wn (hI.upd.keepD Bxr3y10_s6_0).out Tryd.underlying45 rfl szN (by rw [hCr3_4.size]; exact Nat.le_of_ble_eq_true rfl)) (.val (.agg ar3_4)) rfl (congrArg Value.agg (extract_all _ 16 hCr3_4.size)) rfl hK'
    · obtain rfl := Option.some.inj ho
      obtain ⟨vp, hvp, rfl⟩ := hI.hq 8 _ 67 _ rfl rfl rfl (dp hdep 0 rfl rfl)
      obtain ⟨vq, hvq, rfl⟩ := hI.hq 9 _ 68 _ rfl rfl rfl (dp hdep 1 rfl rfl)
      exact hI.cq hD hls rfl rfl rfl 67 #[.tmp 67, .tmp 68] _ rfl #[.agg ar3_9, .agg ar3_4] (by simp [eval_of hvp, eval_of hvq]) (run_enter Tryd.func67 (by kernel_rfl) (by kernel_rfl)) (.like (IsC 16 RN [(y1 * y2) + (x1 * x2)])) rfl rfl ((rAddE hCr3_9 hCr3_4).mono fun _ _ h => h.sq) hK'
    · obtain rfl := Option.some.inj ho
      obtain ⟨vp, hvp, ap, rfl, hCp⟩ := hI.hq 7 _ 66 _ rfl rfl rfl (dp hdep 0 rfl rfl)
      obtain ⟨vq, hvq, aq, rfl, hCq⟩ := hI.hq 10 _ 69 _ rfl rfl rfl (dp hdep 1 rfl rfl)
      exact hI.cq hD hls rfl rfl rfl 58 #[.tmp 66, .tmp 69] _ rfl #[.agg ap, .agg aq] (by simp [eval_of hvp, eval_of hvq]) (run_enter Tryd.func58 (by kernel_rfl) (by kernel_rfl)) (.like (IsC 16 RN [((z1 * z2) * (((z1 * z2) * (z1 * z2)) + (d * ((x1 * x2) * (y1 * y2))))) * ((y1 * y2) + (x1 * x2))])) rfl rfl ((rMulE hCp hCq).mono fun _ _ h => h.sq) hK'
    · obtain rfl := Option.some.inj ho
      have hvp : an.eval (.tmp 12) = ptrTo br5_6 := hI.oq (by kernel_rfl) rfl
      exact hI.pq hD hls rfl rfl rfl _ (run_loadQ rfl hvp wn (hI.upd.keepD Bxr5y6_s6_0).out Tryd.underlying45 rfl szN (by rw [hCr5_2.size]; exact Nat.le_of_ble_eq_true rfl)) (.val (.agg ar5_2)) rfl (congrArg Value.agg (extract_all _ 16 hCr5_2.size)) rfl hK'
    · obtain rfl := Option.some.inj ho
      have hvp : an.eval (.tmp 13) = ptrTo br5_7 := hI.oq (by kernel_rfl) rfl
      exact hI.pq hD hls rfl rfl rfl _ (run_loadQ rfl hvp wn (hI.upd.keepD Bxr5y7_s6_0).out Tryd.underlying45 rfl szN (by rw [hCr5_5.size]; exact Nat.le_of_ble_eq_true rfl)) (.val (.agg ar5_5)) rfl (congrArg Value.agg (extract_all _ 16 hCr5_5.size)) rfl hK'
    · obtain rfl := Option.some.inj ho
      obtain ⟨vp, hvp, rfl⟩ := hI.hq 12 _ 71 _ rfl rfl rfl (dp hdep 0 rfl rfl)
      obtain ⟨vq, hvq, rfl⟩ := hI.hq 13 _ 72 _ rfl rfl rfl (dp hdep 1 rfl rfl)
      exact hI.cq hD hls rfl rfl rfl 58 #[.tmp 71, .tmp 72] _ rfl #[.agg ar5_2, .agg ar5_5] (by simp [eval_of hvp, eval_of hvq]) (run_enter Tryd.func58 (by kernel_rfl) (by kernel_rfl)) (.like (IsC 16 RN [(((z1 * z2) * (z1 * z2)) - (d * ((x1 * x2) * (y1 * y2)))) * (((z1 * z2) * (z1 * z2)) + (d * ((x1 * x2) * (y1 * y2))))])) rfl rfl ((rMulE hCr5_2 hCr5_5).mono fun _ _ h => h.sq) hK'
    · obtain rfl := Option.some.inj ho
      obtain ⟨vp, hvp, ap, rfl, hCp⟩ := hI.hq 4 _ 63 _ rfl rfl rfl (dp hdep 0 rfl rfl)
      obtain ⟨vq, hvq, aq, rfl, hCq⟩ := hI.hq 11 _ 70 _ rfl rfl rfl (dp hdep 1 rfl rfl)
      obtain ⟨vr, hvr, ar, rfl, hCr⟩ := hI.hq 14 _ 73 _ rfl rfl rfl (dp hdep 2 rfl rfl)
      exact hI.pq hD hls rfl rfl rfl _ (run_buildR6 rfl (eval_of hvp) (eval_of hvq) (eval_of hvr) hCp.size hCq.size hCr.size wn) (.like (IsC 16 RN [((z1 * z2) * (((z1 * z2) * (z1 * z2)) - (d * ((x1 * x2) * (y1 * y2))))) * ((((x1 + y1) * (x2 + y2)) - (x1 * x2)) - (y1 * y2)), ((z1 * z2) * (((z1 * z2) * (z1 * z2)) + (d * ((x1 * x2) * (y1 * y2))))) * ((y1 * y2) + (x1 * x2)), (((z1 * z2) * (z1 * z2)) - (d * ((x1 * x2) * (y1 * y2)))) * (((z1 * z2) * (z1 * z2)) + (d * ((x1 * x2) * (y1 * y2))))])) rfl ⟨_, rfl, ((hCp.cat hCq).cat hCr)⟩ rfl hK'
  intro fuel an w8 hf hI
  obtain ⟨vr7_0, hvr7_0, rfl⟩ := hI.hq 0 _ 59 _ rfl rfl rfl rfl
  obtain ⟨vr7_1, hvr7_1, rfl⟩ := hI.hq 1 _ 60 _ rfl rfl rfl rfl
  obtain ⟨vr7_2, hvr7_2, ar7_2, rfl, hCr7_2⟩ := hI.hq 2 _ 61 _ rfl rfl rfl rfl
  obtain ⟨vr7_3, hvr7_3, rfl⟩ := hI.hq 3 _ 62 _ rfl rfl rfl rfl
  obtain ⟨vr7_4, hvr7_4, ar7_4, rfl, hCr7_4⟩ := hI.hq 4 _ 63 _ rfl rfl rfl rfl
  obtain ⟨vr7_5, hvr7_5, rfl⟩ := hI.hq 5 _ 64 _ rfl rfl rfl rfl
  obtain ⟨vr7_6, hvr7_6, rfl⟩ := hI.hq 6 _ 65 _ rfl rfl rfl rfl
  obtain ⟨vr7_7, hvr7_7, ar7_7, rfl, hCr7_7⟩ := hI.hq 7 _ 66 _ rfl rfl rfl rfl
  obtain ⟨vr7_8, hvr7_8, rfl⟩ := hI.hq 8 _ 67 _ rfl rfl rfl rfl
  obtain ⟨vr7_9, hvr7_9, rfl⟩ := hI.hq 9 _ 68 _ rfl rfl rfl rfl
  obtain ⟨vr7_10, hvr7_10, ar7_10, rfl, hCr7_10⟩ := hI.hq 10 _ 69 _ rfl rfl rfl rfl
  obtain ⟨vr7_11, hvr7_11, ar7_11, rfl, hCr7_11⟩ := hI.hq 11 _ 70 _ rfl rfl rfl rfl
  obtain ⟨vr7_12, hvr7_12, rfl⟩ := hI.hq 12 _ 71 _ rfl rfl rfl rfl
  obtain ⟨vr7_13, hvr7_13, rfl⟩ := hI.hq 13 _ 72 _ rfl rfl rfl rfl
  obtain ⟨vr7_14, hvr7_14, ar7_14, rfl, hCr7_14⟩ := hI.hq 14 _ 73 _ rfl rfl rfl rfl
  obtain ⟨vr7_15, hvr7_15, ar7_15, rfl, hCr7_15⟩ := hI.hq 15 _ 74 _ rfl rfl rfl rfl
  have hupd := hI.upd
  have ha := hI.act [(59, .agg ar1_4), (60, .agg ar5_2), (61, .agg ar7_2), (62, .agg ar6_14), (63, .agg ar7_4), (64, .agg ar1_4), (65, .agg ar5_5), (66, .agg ar7_7), (67, .agg ar3_9), (68, .agg ar3_4), (69, .agg ar7_10), (70, .agg ar7_11), (71, .agg ar5_2), (72, .agg ar5_5), (73, .agg ar7_14), (74, .agg ar7_15)] (by simp [hvr7_0, hvr7_1, hvr7_2, hvr7_3, hvr7_4, hvr7_5, hvr7_6, hvr7_7, hvr7_8, hvr7_9, hvr7_10, hvr7_11, hvr7_12, hvr7_13, hvr7_14, hvr7_15]) (by kernel_rfl)
  clear hI hvr7_0 hvr7_1 hvr7_2 hvr7_3 hvr7_4 hvr7_5 hvr7_6 hvr7_7 hvr7_8 hvr7_9 hvr7_10 hvr7_11 hvr7_12 hvr7_13 hvr7_14 hvr7_15
  subst ha
  simp only [List.foldl_cons, List.foldl_nil, List.setIfInBounds_toArray, List.set_cons_zero, List.set_cons_succ]
  have Bxr0y0_7 := hupd.keepD Bxr0y0_s6_0
  have Bxr0y1_7 := hupd.keepD Bxr0y1_s6_0
  have Bxr0y2_7 := hupd.keepD Bxr0y2_s6_0
  have Bxr0y3_7 := hupd.keepD Bxr0y3_s6_0
  have Bxr1y5_7 := hupd.keepD Bxr1y5_s6_0
  have Bxr2y3_7 := hupd.keepD Bxr2y3_s6_0
  have Bxr3y10_7 := hupd.keepD Bxr3y10_s6_0
  have Bxr3y11_7 := hupd.keepD Bxr3y11_s6_0
  have Bxr4y5_7 := hupd.keepD Bxr4y5_s6_0
  have Bxr5y6_7 := hupd.keepD Bxr5y6_s6_0
  have Bxr5y7_7 := hupd.keepD Bxr5y7_s6_0
  have Bxr6y15_7 := hupd.keepD Bxr6y15_s6_0
  have HU7 := hh (HU6_0.out.drew.trans hupd)
  clear hupd
  have hf0 : left #[true, true, true, true, true, true, true, true, true, true, true, true, true, true, true, true, false] 17 = 1 := by kernel_rfl
  have hf1 : left #[true, true, true, true, true, true, true, true, true, true, true, true, true, true, true, true, false] 17 ≤ fuel := hf
  obtain ⟨fu, rfl⟩ : ∃ fu, fuel = fu + 1 := ⟨fuel - 1, by omega⟩
  clear hf hf0 hf1
  refine wpAny_storeQ 16 rfl (by kernel_rfl) rfl rfl 47 (.tmp 6) (.tmp 74) rfl br0_3 0 48 rfl ar7_15 rfl 47 zr0_3 Bxr0y3_7.out szR6 hCr7_15.size (by rw [hzr0_3.size]; exact Nat.le_of_ble_eq_true rfl) hCr7_15.one' ?_
  intro ws7_0 hs7_0 hus7_0
  rw [splice_all _ _ 48 hzr0_3.size hCr7_15.size] at hs7_0
  have Bxr0y0_s7_0 := hus7_0.keepS Bxr0y0_7 (fun e => hner0_0_r0_3.out e)
  have Bxr0y1_s7_0 := hus7_0.keepS Bxr0y1_7 (fun e => hner0_1_r0_3.out e)
  have Bxr0y2_s7_0 := hus7_0.keepS Bxr0y2_7 (fun e => hner0_2_r0_3.out e)
  have Bxr1y5_s7_0 := hus7_0.keepS Bxr1y5_7 (fun e => hner1_5_Bxr0y3.out e)
  have Bxr2y3_s7_0 := hus7_0.keepS Bxr2y3_7 (fun e => hner2_3_Bxr0y3_s1_0.out e)
  have Bxr3y10_s7_0 := hus7_0.keepS Bxr3y10_7 (fun e => hner3_10_Bxr0y3_s2_0.out e)
  have Bxr3y11_s7_0 := hus7_0.keepS Bxr3y11_7 (fun e => hner3_11_Bxr0y3_s2_0.out e)
  have Bxr4y5_s7_0 := hus7_0.keepS Bxr4y5_7 (fun e => hner4_5_Bxr0y3_s3_1.out e)
  have Bxr5y6_s7_0 := hus7_0.keepS Bxr5y6_7 (fun e => hner5_6_Bxr0y3_s4_0.out e)
  have Bxr5y7_s7_0 := hus7_0.keepS Bxr5y7_7 (fun e => hner5_7_Bxr0y3_s4_0.out e)
  have Bxr6y15_s7_0 := hus7_0.keepS Bxr6y15_7 (fun e => hner6_15_Bxr0y3_s5_1.out e)
  have Bxr0y3_s7_0 := hh hs7_0
  have HU7_0 := hh (HU7.out.step hus7_0 (fun i hi h => absurd hi (Nat.not_lt.2 (h.symm ▸ hger0_3.out))))
  clear hs7_0 hus7_0
  refine wpAny_done (by kernel_rfl) ?_ _
  refine hK7 _ _ ?_
  clear hK7
  refine wp_ret ?_
  try dsimp only [Exit.then]
  try dsimp only [Exit.inBlock]
  exact bodyPost_ret (v := .agg ar7_15) (results_cell_row (fn := Tryd.f29) (p := 6) (ty := 47) rfl _ _ br0_3 47 _ (0, 0) _ rfl Bxr0y3_s7_0.out Tryd.underlying47 rfl (by rw [hCr7_15.size]; exact szR6)) rfl ⟨_, rfl, hCr7_15, HU7_0.out⟩
end Go.Proofs.YtdpafemcpbhlfaaDoor
