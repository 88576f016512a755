/-
  Walks of point: of, d, together, Neg.
-/
import Derived.Test.YtdpafemcpbhlfaaDoorSh
namespace Go.Proofs.YtdpafemcpbhlfaaDoor
set_option maxRecDepth 100000
open Go.RowKit

def keyP0 : List Int := [163, 120, 89, 19, 202, 77, 235, 117, 171, 216, 65, 65, 77, 10, 112, 0, 152, 232, 121, 119, 121, 64, 199, 140, 115, 254, 111, 43, 238, 108, 3, 82]
theorem keyP0_length : keyP0.length = 32 := rfl
theorem keyP0_digs : Digs 256 keyP0 := digs_of_all (by decide)
theorem keyP0_run {o : Oper} {a : Act} (ho : o.op = .build 23 #[(0, .const (.int .u8 163)), (1, .const (.int .u8 120)), (2, .const (.int .u8 89)), (3, .const (.int .u8 19)), (4, .const (.int .u8 202)), (5, .const (.int .u8 77)), (6, .const (.int .u8 235)), (7, .const (.int .u8 117)), (8, .const (.int .u8 171)), (9, .const (.int .u8 216)), (10, .const (.int .u8 65)), (11, .const (.int .u8 65)), (12, .const (.int .u8 77)), (13, .const (.int .u8 10)), (14, .const (.int .u8 112)), (15, .const (.int .u8 0)), (16, .const (.int .u8 152)), (17, .const (.int .u8 232)), (18, .const (.int .u8 121)), (19, .const (.int .u8 119)), (20, .const (.int .u8 121)), (21, .const (.int .u8 64)), (22, .const (.int .u8 199)), (23, .const (.int .u8 140)), (24, .const (.int .u8 115)), (25, .const (.int .u8 254)), (26, .const (.int .u8 111)), (27, .const (.int .u8 43)), (28, .const (.int .u8 238)), (29, .const (.int .u8 108)), (30, .const (.int .u8 3)), (31, .const (.int .u8 82))]) (w : World) : (execOp a.eval o).run Tryd.prog w = .ok (.value (.agg (numsA .u8 keyP0))) w := by
  have hb : (Instr.build 23 #[(0, .int .u8 163), (1, .int .u8 120), (2, .int .u8 89), (3, .int .u8 19), (4, .int .u8 202), (5, .int .u8 77), (6, .int .u8 235), (7, .int .u8 117), (8, .int .u8 171), (9, .int .u8 216), (10, .int .u8 65), (11, .int .u8 65), (12, .int .u8 77), (13, .int .u8 10), (14, .int .u8 112), (15, .int .u8 0), (16, .int .u8 152), (17, .int .u8 232), (18, .int .u8 121), (19, .int .u8 119), (20, .int .u8 121), (21, .int .u8 64), (22, .int .u8 199), (23, .int .u8 140), (24, .int .u8 115), (25, .int .u8 254), (26, .int .u8 111), (27, .int .u8 43), (28, .int .u8 238), (29, .int .u8 108), (30, .int .u8 3), (31, .int .u8 82)]).run Tryd.prog w = .ok (.agg (numsA .u8 keyP0)) w := by kernel_rfl
  have hm : (#[(0, .const (.int .u8 163)), (1, .const (.int .u8 120)), (2, .const (.int .u8 89)), (3, .const (.int .u8 19)), (4, .const (.int .u8 202)), (5, .const (.int .u8 77)), (6, .const (.int .u8 235)), (7, .const (.int .u8 117)), (8, .const (.int .u8 171)), (9, .const (.int .u8 216)), (10, .const (.int .u8 65)), (11, .const (.int .u8 65)), (12, .const (.int .u8 77)), (13, .const (.int .u8 10)), (14, .const (.int .u8 112)), (15, .const (.int .u8 0)), (16, .const (.int .u8 152)), (17, .const (.int .u8 232)), (18, .const (.int .u8 121)), (19, .const (.int .u8 119)), (20, .const (.int .u8 121)), (21, .const (.int .u8 64)), (22, .const (.int .u8 199)), (23, .const (.int .u8 140)), (24, .const (.int .u8 115)), (25, .const (.int .u8 254)), (26, .const (.int .u8 111)), (27, .const (.int .u8 43)), (28, .const (.int .u8 238)), (29, .const (.int .u8 108)), (30, .const (.int .u8 3)), (31, .const (.int .u8 82))] : Array (Nat × Operand)).map (fun (i, x) => (i, a.eval x)) = #[(0, .int .u8 163), (1, .int .u8 120), (2, .int .u8 89), (3, .int .u8 19), (4, .int .u8 202), (5, .int .u8 77), (6, .int .u8 235), (7, .int .u8 117), (8, .int .u8 171), (9, .int .u8 216), (10, .int .u8 65), (11, .int .u8 65), (12, .int .u8 77), (13, .int .u8 10), (14, .int .u8 112), (15, .int .u8 0), (16, .int .u8 152), (17, .int .u8 232), (18, .int .u8 121), (19, .int .u8 119), (20, .int .u8 121), (21, .int .u8 64), (22, .int .u8 199), (23, .int .u8 140), (24, .int .u8 115), (25, .int .u8 254), (26, .int .u8 111), (27, .int .u8 43), (28, .int .u8 238), (29, .int .u8 108), (30, .int .u8 3), (31, .int .u8 82)] := by simp [Act.eval]
  unfold execOp
  simp only [ho]
  rw [hm, Sem.run_bind, hb]
  rfl
set_option maxHeartbeats 4000000 in
theorem ofP {x y : Fp} {a b : Array Value} (w : World) (ha : Ch 5 RE [x] a) (hb : Ch 5 RE [y] b) :
    Calls Tryd.prog 64 #[.agg a, .agg b] w (RetC 5 RE [x, y, fv 1, x * y] w) := by
  have HU := hh (Upd.refl (fun _ => False) w)
  go_enter Tryd.func64, Tryd.ntmps64
  refine wp_seq_k fun K0 hK0 => ?_
  refine wp_region_qSD 3 #[true, true, true] [] ([.blk ptrTo 39 (Ch 5 RE [x]), .blk ptrTo 39 (Ch 5 RE [y]), .blk ptrTo 41 (Ch 5 RE [0, 0, 0, 0])] : List SQ) (by kernel_rfl) (by kernel_rfl) (by kernel_rfl) (by kernel_rfl) ?_ ?_
  · intro i o listed an wn ho hls hst hun hdep hI hD hpre K' hK'
    rcases slot_cases (l := [0, 1, 2]) rfl ho hst with rfl | rfl | rfl | ⟨⟨⟩⟩
    · obtain rfl := Option.some.inj ho
      have hvp : an.eval (.tmp 0) = .agg a := hI.oq (by kernel_rfl) rfl
      exact hI.newQ hD hls (Nat.le_refl _) (newsQ_spec (l := [0, 1, 2]) (by kernel_rfl) ⟨⟨_, _, rfl⟩, ⟨_, _, rfl⟩, ⟨_, _, rfl⟩, trivial⟩) rfl rfl rfl 39 a _ (run_boxQ rfl hvp wn) rfl ha hK'
    · obtain rfl := Option.some.inj ho
      have hvp : an.eval (.tmp 1) = .agg b := hI.oq (by kernel_rfl) rfl
      exact hI.newQ hD hls (Nat.le_refl _) (newsQ_spec (l := [0, 1, 2]) (by kernel_rfl) ⟨⟨_, _, rfl⟩, ⟨_, _, rfl⟩, ⟨_, _, rfl⟩, trivial⟩) rfl rfl rfl 39 b _ (run_boxQ rfl hvp wn) rfl hb hK'
    · obtain rfl := Option.some.inj ho
      exact hI.newQ hD hls (Nat.le_refl _) (newsQ_spec (l := [0, 1, 2]) (by kernel_rfl) ⟨⟨_, _, rfl⟩, ⟨_, _, rfl⟩, ⟨_, _, rfl⟩, trivial⟩) rfl rfl rfl 41 zPt _ (run_allocQ rfl zPt_run wn) rfl zPt_ch hK'
  intro an w1 hI
  obtain ⟨vr0_0, hvr0_0, br0_0, zr0_0, rfl, hnr0_0, hbr0_0, hzr0_0⟩ := hI.hq 0 _ 2 _ rfl rfl rfl rfl
  obtain ⟨vr0_1, hvr0_1, br0_1, zr0_1, rfl, hnr0_1, hbr0_1, hzr0_1⟩ := hI.hq 1 _ 3 _ rfl rfl rfl rfl
  obtain ⟨vr0_2, hvr0_2, br0_2, zr0_2, rfl, hnr0_2, hbr0_2, hzr0_2⟩ := hI.hq 2 _ 4 _ rfl rfl rfl rfl
  have hupd := hI.upd
  have hner0_0_r0_1 := hh (show br0_0 ≠ br0_1 from fun e => hI.apart 0 1 _ _ 2 3 (by omega) rfl rfl rfl rfl rfl rfl rfl rfl (by rw [hvr0_0, hvr0_1, e]))
  have hner0_0_r0_2 := hh (show br0_0 ≠ br0_2 from fun e => hI.apart 0 2 _ _ 2 4 (by omega) rfl rfl rfl rfl rfl rfl rfl rfl (by rw [hvr0_0, hvr0_2, e]))
  have hner0_1_r0_2 := hh (show br0_1 ≠ br0_2 from fun e => hI.apart 1 2 _ _ 3 4 (by omega) rfl rfl rfl rfl rfl rfl rfl rfl (by rw [hvr0_1, hvr0_2, e]))
  have ha := hI.act [(2, ptrTo br0_0), (3, ptrTo br0_1), (4, ptrTo br0_2)] (by simp [hvr0_0, hvr0_1, hvr0_2]) (by kernel_rfl)
  clear hI hvr0_0 hvr0_1 hvr0_2
  subst ha
  simp only [List.foldl_cons, List.foldl_nil, List.setIfInBounds_toArray, List.set_cons_zero, List.set_cons_succ]
  have hger0_0 := geB HU hnr0_0
  have hger0_1 := geB HU hnr0_1
  have hger0_2 := geB HU hnr0_2
  have Bxr0y0 := hh hbr0_0
  have Bxr0y1 := hh hbr0_1
  have Bxr0y2 := hh hbr0_2
  have HU0 := hh (HU.out.trans hupd)
  clear hupd
  refine wpOps_nil ?_
  refine hK0 _ _ ?_
  clear hK0
  refine wp_seq_k fun K1 hK1 => ?_
  refine wp_region_qD #[true, true, true, true, true, true, true, false] ([.val (.agg zr0_0), .val (.agg zr0_1), .like (IsC 5 RE [fv 1]), .val (.agg zr0_0), .val (.agg zr0_1), .like (IsC 5 RE [x * y]), .like (IsC 5 RE [x, y, fv 1, x * y]), .val undef] : List SQ) (by kernel_rfl) (by kernel_rfl) (by kernel_rfl) (by kernel_rfl) ?_ ?_
  · intro i o listed an wn ho hls hst hun hdep hI hD K' hK'
    rcases slot_cases (l := [0, 1, 2, 3, 4, 5, 6]) rfl ho hst with rfl | rfl | rfl | rfl | rfl | rfl | rfl | ⟨⟨⟩⟩
    · obtain rfl := Option.some.inj ho
      have hvp : an.eval (.tmp 2) = ptrTo br0_0 := hI.oq (by kernel_rfl) rfl
      exact hI.pq hD hls rfl rfl rfl _ (run_loadQ rfl hvp wn (hI.upd.keepD Bxr0y0).out Tryd.underlying39 rfl szE (by rw [hzr0_0.size]; exact Nat.le_of_ble_eq_true rfl)) (.val (.agg zr0_0)) rfl (congrArg Value.agg (extract_all _ 5 hzr0_0.size)) rfl hK'
    · obtain rfl := Option.some.inj ho
      have hvp : an.eval (.tmp 3) = ptrTo br0_1 := hI.oq (by kernel_rfl) rfl
      exact hI.pq hD hls rfl rfl rfl _ (run_loadQ rfl hvp wn (hI.upd.keepD Bxr0y1).out Tryd.underlying39 rfl szE (by rw [hzr0_1.size]; exact Nat.le_of_ble_eq_true rfl)) (.val (.agg zr0_1)) rfl (congrArg Value.agg (extract_all _ 5 hzr0_1.size)) rfl hK'
    · obtain rfl := Option.some.inj ho
      exact hI.cq hD hls rfl rfl rfl 43 #[.const (.int .u32 1)] _ rfl #[.int .u32 1] (by simp [Act.eval]) (run_enter Tryd.func43 (by kernel_rfl) (by kernel_rfl)) (.like (IsC 5 RE [fv 1])) rfl rfl ((smallE 1 (by decide) (by decide)).mono fun _ _ h => h.sq) hK'
    · obtain rfl := Option.some.inj ho
      have hvp : an.eval (.tmp 2) = ptrTo br0_0 := hI.oq (by kernel_rfl) rfl
      exact hI.pq hD hls rfl rfl rfl _ (run_loadQ rfl hvp wn (hI.upd.keepD Bxr0y0).out Tryd.underlying39 rfl szE (by rw [hzr0_0.size]; exact Nat.le_of_ble_eq_true rfl)) (.val (.agg zr0_0)) rfl (congrArg Value.agg (extract_all _ 5 hzr0_0.size)) rfl hK'
    · obtain rfl := Option.some.inj ho
      have hvp : an.eval (.tmp 3) = ptrTo br0_1 := hI.oq (by kernel_rfl) rfl
      exact hI.pq hD hls rfl rfl rfl _ (run_loadQ rfl hvp wn (hI.upd.keepD Bxr0y1).out Tryd.underlying39 rfl szE (by rw [hzr0_1.size]; exact Nat.le_of_ble_eq_true rfl)) (.val (.agg zr0_1)) rfl (congrArg Value.agg (extract_all _ 5 hzr0_1.size)) rfl hK'
    · obtain rfl := Option.some.inj ho
      obtain ⟨vp, hvp, rfl⟩ := hI.hq 3 _ 8 _ rfl rfl rfl (dp hdep 0 rfl rfl)
      obtain ⟨vq, hvq, rfl⟩ := hI.hq 4 _ 9 _ rfl rfl rfl (dp hdep 1 rfl rfl)
      exact hI.cq hD hls rfl rfl rfl 44 #[.tmp 8, .tmp 9] _ rfl #[.agg zr0_0, .agg zr0_1] (by simp [eval_of hvp, eval_of hvq]) (run_enter Tryd.func44 (by kernel_rfl) (by kernel_rfl)) (.like (IsC 5 RE [x * y])) rfl rfl ((mulE hzr0_0 hzr0_1).mono fun _ _ h => h.sq) hK'
    · obtain rfl := Option.some.inj ho
      obtain ⟨vp, hvp, rfl⟩ := hI.hq 0 _ 5 _ rfl rfl rfl (dp hdep 0 rfl rfl)
      obtain ⟨vq, hvq, rfl⟩ := hI.hq 1 _ 6 _ rfl rfl rfl (dp hdep 1 rfl rfl)
      obtain ⟨vr, hvr, ar, rfl, hCr⟩ := hI.hq 2 _ 7 _ rfl rfl rfl (dp hdep 2 rfl rfl)
      obtain ⟨vu, hvu, au, rfl, hCu⟩ := hI.hq 5 _ 10 _ rfl rfl rfl (dp hdep 3 rfl rfl)
      exact hI.pq hD hls rfl rfl rfl _ (run_buildPt rfl (eval_of hvp) (eval_of hvq) (eval_of hvr) (eval_of hvu) hzr0_0.size hzr0_1.size hCr.size hCu.size wn) (.like (IsC 5 RE [x, y, fv 1, x * y])) rfl ⟨_, rfl, (((hzr0_0.cat hzr0_1).cat hCr).cat hCu)⟩ rfl hK'
  intro fuel an w2 hf hI
  obtain ⟨vr1_0, hvr1_0, rfl⟩ := hI.hq 0 _ 5 _ rfl rfl rfl rfl
  obtain ⟨vr1_1, hvr1_1, rfl⟩ := hI.hq 1 _ 6 _ rfl rfl rfl rfl
  obtain ⟨vr1_2, hvr1_2, ar1_2, rfl, hCr1_2⟩ := hI.hq 2 _ 7 _ rfl rfl rfl rfl
  obtain ⟨vr1_3, hvr1_3, rfl⟩ := hI.hq 3 _ 8 _ rfl rfl rfl rfl
  obtain ⟨vr1_4, hvr1_4, rfl⟩ := hI.hq 4 _ 9 _ rfl rfl rfl rfl
  obtain ⟨vr1_5, hvr1_5, ar1_5, rfl, hCr1_5⟩ := hI.hq 5 _ 10 _ rfl rfl rfl rfl
  obtain ⟨vr1_6, hvr1_6, ar1_6, rfl, hCr1_6⟩ := hI.hq 6 _ 11 _ rfl rfl rfl rfl
  have hupd := hI.upd
  have ha := hI.act [(5, .agg zr0_0), (6, .agg zr0_1), (7, .agg ar1_2), (8, .agg zr0_0), (9, .agg zr0_1), (10, .agg ar1_5), (11, .agg ar1_6)] (by simp [hvr1_0, hvr1_1, hvr1_2, hvr1_3, hvr1_4, hvr1_5, hvr1_6]) (by kernel_rfl)
  clear hI hvr1_0 hvr1_1 hvr1_2 hvr1_3 hvr1_4 hvr1_5 hvr1_6
  subst ha
  simp only [List.foldl_cons, List.foldl_nil, List.setIfInBounds_toArray, List.set_cons_zero, List.set_cons_succ]
  have Bxr0y0_1 := hupd.keepD Bxr0y0
  have Bxr0y1_1 := hupd.keepD Bxr0y1
  have Bxr0y2_1 := hupd.keepD Bxr0y2
  have HU1 := hh (HU0.out.drew.trans hupd)
  clear hupd
  have hf0 : left #[true, true, true, true, true, true, true, false] 8 = 1 := by kernel_rfl
  have hf1 : left #[true, true, true, true, true, true, true, false] 8 ≤ fuel := hf
  obtain ⟨fu, rfl⟩ : ∃ fu, fuel = fu + 1 := ⟨fuel - 1, by omega⟩
  clear hf hf0 hf1
  refine wpAny_storeQ 7 rfl (by kernel_rfl) rfl rfl 41 (.tmp 4) (.tmp 11) rfl br0_2 0 20 rfl ar1_6 rfl 41 zr0_2 Bxr0y2_1.out szPt hCr1_6.size (by rw [hzr0_2.size]; exact Nat.le_of_ble_eq_true rfl) hCr1_6.one' ?_
  intro ws1_0 hs1_0 hus1_0
  rw [splice_all _ _ 20 hzr0_2.size hCr1_6.size] at hs1_0
  have Bxr0y0_s1_0 := hus1_0.keepS Bxr0y0_1 (fun e => hner0_0_r0_2.out e)
  have Bxr0y1_s1_0 := hus1_0.keepS Bxr0y1_1 (fun e => hner0_1_r0_2.out e)
  have Bxr0y2_s1_0 := hh hs1_0
  have HU1_0 := hh (HU1.out.step hus1_0 (fun i hi h => absurd hi (Nat.not_lt.2 (h.symm ▸ hger0_2.out))))
  clear hs1_0 hus1_0
  refine wpAny_done (by kernel_rfl) ?_ _
  refine hK1 _ _ ?_
  clear hK1
  refine wp_ret ?_
  try dsimp only [Exit.then]
  try dsimp only [Exit.inBlock]
  exact bodyPost_ret (v := .agg ar1_6) (results_cell_row (fn := Tryd.f64) (p := 4) (ty := 41) rfl _ _ br0_2 41 _ (0, 0) _ rfl Bxr0y2_s1_0.out Tryd.underlying41 rfl (by rw [hCr1_6.size]; exact szPt)) rfl ⟨_, rfl, hCr1_6, HU1_0.out⟩
set_option maxHeartbeats 4000000 in
theorem dP (w : World) :
    Calls Tryd.prog 94 #[] w (RetC 5 RE [ofKey keyP0] w) := by
  have HU := hh (Upd.refl (fun _ => False) w)
  go_enter Tryd.func94, Tryd.ntmps94
  refine wp_seq_k fun K0 hK0 => ?_
  refine wp_region_qSD 1 #[true] [] ([.blk ptrTo 39 (Ch 5 RE [0])] : List SQ) (by kernel_rfl) (by kernel_rfl) (by kernel_rfl) (by kernel_rfl) ?_ ?_
  · intro i o listed an wn ho hls hst hun hdep hI hD hpre K' hK'
    rcases slot_cases (l := [0]) rfl ho hst with rfl | ⟨⟨⟩⟩
    · obtain rfl := Option.some.inj ho
      exact hI.newQ hD hls (Nat.le_refl _) (newsQ_spec (l := [0]) (by kernel_rfl) ⟨⟨_, _, rfl⟩, trivial⟩) rfl rfl rfl 39 zE _ (run_allocQ rfl zE_run wn) rfl zE_ch hK'
  intro an w1 hI
  obtain ⟨vr0_0, hvr0_0, br0_0, zr0_0, rfl, hnr0_0, hbr0_0, hzr0_0⟩ := hI.hq 0 _ 0 _ rfl rfl rfl rfl
  have hupd := hI.upd
  have ha := hI.act [(0, ptrTo br0_0)] (by simp [hvr0_0]) (by kernel_rfl)
  clear hI hvr0_0
  subst ha
  simp only [List.foldl_cons, List.foldl_nil, List.setIfInBounds_toArray, List.set_cons_zero]
  have hger0_0 := geB HU hnr0_0
  have Bxr0y0 := hh hbr0_0
  have HU0 := hh (HU.out.trans hupd)
  clear hupd
  refine wpOps_nil ?_
  refine hK0 _ _ ?_
  clear hK0
  refine wp_seq_k fun K1 hK1 => ?_
  refine wp_region_qSD 2 #[true, true, false] [2] ([.val (.agg (numsA .u8 keyP0)), .like (IsC 5 RE [ofKey keyP0]), .val undef] : List SQ) (by kernel_rfl) (by kernel_rfl) (by kernel_rfl) (by kernel_rfl) ?_ ?_
  · intro i o listed an wn ho hls hst hun hdep hI hD hpre K' hK'
    rcases slot_cases (l := [0, 1]) rfl ho hst with rfl | rfl | ⟨⟨⟩⟩
    · obtain rfl := Option.some.inj ho
      exact hI.pq hD hls rfl rfl rfl _ (keyP0_run rfl wn) (.val (.agg (numsA .u8 keyP0))) rfl rfl rfl hK'
    · obtain rfl := Option.some.inj ho
      obtain ⟨vp, hvp, rfl⟩ := hI.hq 0 _ 1 _ rfl rfl rfl (dp hdep 0 rfl rfl)
      exact hI.cq hD hls rfl rfl rfl 42 #[.tmp 1] _ rfl #[.agg (numsA .u8 keyP0)] (by simp [eval_of hvp]) (run_enter Tryd.func42 (by kernel_rfl) (by kernel_rfl)) (.like (IsC 5 RE [ofKey keyP0])) rfl rfl ((ofE keyP0 (keyP0_length) (keyP0_digs)).mono fun _ _ h => h.sq) hK'
  intro an w2 hI
  obtain ⟨vr1_0, hvr1_0, rfl⟩ := hI.hq 0 _ 1 _ rfl rfl rfl rfl
  obtain ⟨vr1_1, hvr1_1, ar1_1, rfl, hCr1_1⟩ := hI.hq 1 _ 2 _ rfl rfl rfl rfl
  have hupd := hI.upd
  have ha := hI.act [(1, .agg (numsA .u8 keyP0)), (2, .agg ar1_1)] (by simp [hvr1_0, hvr1_1]) (by kernel_rfl)
  clear hI hvr1_0 hvr1_1
  subst ha
  simp only [List.foldl_cons, List.foldl_nil, List.setIfInBounds_toArray, List.set_cons_zero, List.set_cons_succ]
  have Bxr0y0_1 := hupd.keep Bxr0y0
  have HU1 := hh (HU0.out.trans hupd)
  clear hupd
  refine wpOps_storeQ 2 rfl rfl rfl 39 (.tmp 0) (.tmp 2) rfl br0_0 0 5 rfl ar1_1 rfl 39 zr0_0 Bxr0y0_1.out szE hCr1_1.size (by rw [hzr0_0.size]; exact Nat.le_of_ble_eq_true rfl) hCr1_1.one' ?_
  intro ws1_0 hs1_0 hus1_0
  rw [splice_all _ _ 5 hzr0_0.size hCr1_1.size] at hs1_0
  have Bxr0y0_s1_0 := hh hs1_0
  have HU1_0 := hh (HU1.out.step hus1_0 (fun i hi h => absurd hi (Nat.not_lt.2 (h.symm ▸ hger0_0.out))))
  clear hs1_0 hus1_0
  refine wpOps_nil ?_
  refine hK1 _ _ ?_
  clear hK1
  refine wp_ret ?_
  try dsimp only [Exit.then]
  try dsimp only [Exit.inBlock]
  exact bodyPost_ret (v := .agg ar1_1) (results_cell_row (fn := Tryd.f94) (p := 0) (ty := 39) rfl _ _ br0_0 39 _ (0, 0) _ rfl Bxr0y0_s1_0.out Tryd.underlying39 rfl (by rw [hCr1_1.size]; exact szE)) rfl ⟨_, rfl, hCr1_1, HU1_0.out⟩
theorem dC_ex : ∃ x : Fp, x = ofKey keyP0 := ⟨_, rfl⟩
/-- The curve's d. -/
noncomputable def dC : Fp := Classical.choose dC_ex
theorem dC_eq : dC = ofKey keyP0 := Classical.choose_spec dC_ex
theorem dP2 (w : World) : Calls Tryd.prog 94 #[] w (RetC 5 RE [dC] w) := by
  rw [dC_eq]
  exact dP w
set_option maxHeartbeats 4000000 in
theorem togetherP {x1 y1 z1 t1 x2 y2 z2 t2 : Fp} {a b : Array Value} (w : World) (hT : Tw w) (ha : Ch 5 RE [x1, y1, z1, t1] a) (hb : Ch 5 RE [x2, y2, z2, t2] b) :
    Calls Tryd.prog 70 #[.agg a, .agg b] w (RetC 5 RE [((x1 * y2) + (x2 * y1)) * ((z1 * z2) - (dC * (t1 * t2))), ((y1 * y2) + (x1 * x2)) * ((z1 * z2) + (dC * (t1 * t2))), ((z1 * z2) + (dC * (t1 * t2))) * ((z1 * z2) - (dC * (t1 * t2))), ((x1 * y2) + (x2 * y1)) * ((y1 * y2) + (x1 * x2))] w) := by
  have HT := hh hT
  clear hT
  have HU := hh (Upd.refl (fun _ => False) w)
  go_enter Tryd.func70, Tryd.ntmps70
  refine wp_seq_k fun K0 hK0 => ?_
  refine wp_region_qSD 3 #[true, true, true] [] ([.blk ptrTo 41 (Ch 5 RE [x1, y1, z1, t1]), .blk ptrTo 41 (Ch 5 RE [x2, y2, z2, t2]), .blk ptrTo 41 (Ch 5 RE [0, 0, 0, 0])] : List SQ) (by kernel_rfl) (by kernel_rfl) (by kernel_rfl) (by kernel_rfl) ?_ ?_
  · intro i o listed an wn ho hls hst hun hdep hI hD hpre K' hK'
    rcases slot_cases (l := [0, 1, 2]) rfl ho hst with rfl | rfl | rfl | ⟨⟨⟩⟩
    · obtain rfl := Option.some.inj ho
      have hvp : an.eval (.tmp 0) = .agg a := hI.oq (by kernel_rfl) rfl
      exact hI.newQ hD hls (Nat.le_refl _) (newsQ_spec (l := [0, 1, 2]) (by kernel_rfl) ⟨⟨_, _, rfl⟩, ⟨_, _, rfl⟩, ⟨_, _, rfl⟩, trivial⟩) rfl rfl rfl 41 a _ (run_boxQ rfl hvp wn) rfl ha hK'
    · obtain rfl := Option.some.inj ho
      have hvp : an.eval (.tmp 1) = .agg b := hI.oq (by kernel_rfl) rfl
      exact hI.newQ hD hls (Nat.le_refl _) (newsQ_spec (l := [0, 1, 2]) (by kernel_rfl) ⟨⟨_, _, rfl⟩, ⟨_, _, rfl⟩, ⟨_, _, rfl⟩, trivial⟩) rfl rfl rfl 41 b _ (run_boxQ rfl hvp wn) rfl hb hK'
    · obtain rfl := Option.some.inj ho
      exact hI.newQ hD hls (Nat.le_refl _) (newsQ_spec (l := [0, 1, 2]) (by kernel_rfl) ⟨⟨_, _, rfl⟩, ⟨_, _, rfl⟩, ⟨_, _, rfl⟩, trivial⟩) rfl rfl rfl 41 zPt _ (run_allocQ rfl zPt_run wn) rfl zPt_ch hK'
  intro an w1 hI
  obtain ⟨vr0_0, hvr0_0, br0_0, zr0_0, rfl, hnr0_0, hbr0_0, hzr0_0⟩ := hI.hq 0 _ 2 _ rfl rfl rfl rfl
  obtain ⟨vr0_1, hvr0_1, br0_1, zr0_1, rfl, hnr0_1, hbr0_1, hzr0_1⟩ := hI.hq 1 _ 3 _ rfl rfl rfl rfl
  obtain ⟨vr0_2, hvr0_2, br0_2, zr0_2, rfl, hnr0_2, hbr0_2, hzr0_2⟩ := hI.hq 2 _ 4 _ rfl rfl rfl rfl
  have hupd := hI.upd
  have hner0_0_r0_1 := hh (show br0_0 ≠ br0_1 from fun e => hI.apart 0 1 _ _ 2 3 (by omega) rfl rfl rfl rfl rfl rfl rfl rfl (by rw [hvr0_0, hvr0_1, e]))
  have hner0_0_r0_2 := hh (show br0_0 ≠ br0_2 from fun e => hI.apart 0 2 _ _ 2 4 (by omega) rfl rfl rfl rfl rfl rfl rfl rfl (by rw [hvr0_0, hvr0_2, e]))
  have hner0_1_r0_2 := hh (show br0_1 ≠ br0_2 from fun e => hI.apart 1 2 _ _ 3 4 (by omega) rfl rfl rfl rfl rfl rfl rfl rfl (by rw [hvr0_1, hvr0_2, e]))
  have ha := hI.act [(2, ptrTo br0_0), (3, ptrTo br0_1), (4, ptrTo br0_2)] (by simp [hvr0_0, hvr0_1, hvr0_2]) (by kernel_rfl)
  clear hI hvr0_0 hvr0_1 hvr0_2
  subst ha
  simp only [List.foldl_cons, List.foldl_nil, List.setIfInBounds_toArray, List.set_cons_zero, List.set_cons_succ]
  have hger0_0 := geB HU hnr0_0
  have hger0_1 := geB HU hnr0_1
  have hger0_2 := geB HU hnr0_2
  have Bxr0y0 := hh hbr0_0
  have Bxr0y1 := hh hbr0_1
  have Bxr0y2 := hh hbr0_2
  have HU0 := hh (HU.out.trans hupd)
  clear hupd
  refine wpOps_nil ?_
  refine hK0 _ _ ?_
  clear hK0
  refine wp_seq_k fun K1 hK1 => ?_
  refine wp_region_qSD 6 #[true, true, true, true, true, true, false] [6] ([.val (.pointer (some ⟨br0_0, 0 + 10, none⟩)), .val (.agg (zr0_0.extract (0 + 10) (0 + 10 + 5))), .val (.pointer (some ⟨br0_1, 0 + 10, none⟩)), .val (.agg (zr0_1.extract (0 + 10) (0 + 10 + 5))), .like (IsC 5 RE [z1 * z2]), .blk ptrTo 39 (Ch 5 RE [0]), .val undef] : List SQ) (by kernel_rfl) (by kernel_rfl) (by kernel_rfl) (by kernel_rfl) ?_ ?_
  · intro i o listed an wn ho hls hst hun hdep hI hD hpre K' hK'
    rcases slot_cases (l := [0, 1, 2, 3, 4, 5]) rfl ho hst with rfl | rfl | rfl | rfl | rfl | rfl | ⟨⟨⟩⟩
    · obtain rfl := Option.some.inj ho
      have hvp : an.eval (.tmp 2) = ptrTo br0_0 := hI.oq (by kernel_rfl) rfl
      exact hI.pq hD hls rfl rfl rfl _ (run_fieldQ (g := br0_0) (off := 0) (k := 10) rfl hvp Tryd.underlying41 rfl (by rfl) szE wn) (.val (.pointer (some ⟨br0_0, 0 + 10, none⟩))) rfl rfl rfl hK'
    · obtain rfl := Option.some.inj ho
      obtain ⟨vp, hvp, rfl⟩ := hI.hq 0 _ 11 _ rfl rfl rfl (dp hdep 0 rfl rfl)
      exact hI.pq hD hls rfl rfl rfl _ (run_loadQ rfl (eval_of hvp) wn (hI.upd.keep Bxr0y0).out Tryd.underlying39 rfl szE (by rw [hzr0_0.size]; exact Nat.le_of_ble_eq_true rfl)) (.val (.agg (zr0_0.extract (0 + 10) (0 + 10 + 5)))) rfl rfl rfl hK'
    · obtain rfl := Option.some.inj ho
      have hvp : an.eval (.tmp 3) = ptrTo br0_1 := hI.oq (by kernel_rfl) rfl
      exact hI.pq hD hls rfl rfl rfl _ (run_fieldQ (g := br0_1) (off := 0) (k := 10) rfl hvp Tryd.underlying41 rfl (by rfl) szE wn) (.val (.pointer (some ⟨br0_1, 0 + 10, none⟩))) rfl rfl rfl hK'
    · obtain rfl := Option.some.inj ho
      obtain ⟨vp, hvp, rfl⟩ := hI.hq 2 _ 13 _ rfl rfl rfl (dp hdep 0 rfl rfl)
      exact hI.pq hD hls rfl rfl rfl _ (run_loadQ rfl (eval_of hvp) wn (hI.upd.keep Bxr0y1).out Tryd.underlying39 rfl szE (by rw [hzr0_1.size]; exact Nat.le_of_ble_eq_true rfl)) (.val (.agg (zr0_1.extract (0 + 10) (0 + 10 + 5)))) rfl rfl rfl hK'
    · obtain rfl := Option.some.inj ho
      obtain ⟨vp, hvp, rfl⟩ := hI.hq 1 _ 12 _ rfl rfl rfl (dp hdep 0 rfl rfl)
      obtain ⟨vq, hvq, rfl⟩ := hI.hq 3 _ 14 _ rfl rfl rfl (dp hdep 1 rfl rfl)
      exact hI.cq hD hls rfl rfl rfl 44 #[.tmp 12, .tmp 14] _ rfl #[.agg (zr0_0.extract (0 + 10) (0 + 10 + 5)), .agg (zr0_1.extract (0 + 10) (0 + 10 + 5))] (by simp [eval_of hvp, eval_of hvq]) (run_enter Tryd.func44 (by kernel_rfl) (by kernel_rfl)) (.like (IsC 5 RE [z1 * z2])) rfl rfl ((mulE (hzr0_0.at 2 (0 + 10) rfl rfl) (hzr0_1.at 2 (0 + 10) rfl rfl)).mono fun _ _ h => h.sq) hK'
    · obtain rfl := Option.some.inj ho
      exact hI.newQ hD hls (Nat.le_refl _) (newsQ_spec (l := [5]) (by kernel_rfl) ⟨⟨_, _, rfl⟩, trivial⟩) rfl rfl rfl 39 zE _ (run_allocQ rfl zE_run wn) rfl zE_ch hK'
  intro an w2 hI
  obtain ⟨vr1_0, hvr1_0, rfl⟩ := hI.hq 0 _ 11 _ rfl rfl rfl rfl
  obtain ⟨vr1_1, hvr1_1, rfl⟩ := hI.hq 1 _ 12 _ rfl rfl rfl rfl
  obtain ⟨vr1_2, hvr1_2, rfl⟩ := hI.hq 2 _ 13 _ rfl rfl rfl rfl
  obtain ⟨vr1_3, hvr1_3, rfl⟩ := hI.hq 3 _ 14 _ rfl rfl rfl rfl
  obtain ⟨vr1_4, hvr1_4, ar1_4, rfl, hCr1_4⟩ := hI.hq 4 _ 15 _ rfl rfl rfl rfl
  obtain ⟨vr1_5, hvr1_5, br1_5, zr1_5, rfl, hnr1_5, hbr1_5, hzr1_5⟩ := hI.hq 5 _ 5 _ rfl rfl rfl rfl
  have hupd := hI.upd
  have ha := hI.act [(11, .pointer (some ⟨br0_0, 0 + 10, none⟩)), (12, .agg (zr0_0.extract (0 + 10) (0 + 10 + 5))), (13, .pointer (some ⟨br0_1, 0 + 10, none⟩)), (14, .agg (zr0_1.extract (0 + 10) (0 + 10 + 5))), (15, .agg ar1_4), (5, ptrTo br1_5)] (by simp [hvr1_0, hvr1_1, hvr1_2, hvr1_3, hvr1_4, hvr1_5]) (by kernel_rfl)
  clear hI hvr1_0 hvr1_1 hvr1_2 hvr1_3 hvr1_4 hvr1_5
  subst ha
  simp only [List.foldl_cons, List.foldl_nil, List.setIfInBounds_toArray, List.set_cons_zero, List.set_cons_succ]
  have hner1_5_Bxr0y0 := apartB Bxr0y0 hnr1_5
  have hner1_5_Bxr0y1 := apartB Bxr0y1 hnr1_5
  have hner1_5_Bxr0y2 := apartB Bxr0y2 hnr1_5
  have hger1_5 := geB HU0 hnr1_5
  have Bxr0y0_1 := hupd.keep Bxr0y0
  have Bxr0y1_1 := hupd.keep Bxr0y1
  have Bxr0y2_1 := hupd.keep Bxr0y2
  have Bxr1y5 := hh hbr1_5
  have HU1 := hh (HU0.out.trans hupd)
  clear hupd
  refine wpOps_storeQ 6 rfl rfl rfl 39 (.tmp 5) (.tmp 15) rfl br1_5 0 5 rfl ar1_4 rfl 39 zr1_5 Bxr1y5.out szE hCr1_4.size (by rw [hzr1_5.size]; exact Nat.le_of_ble_eq_true rfl) hCr1_4.one' ?_
  intro ws1_0 hs1_0 hus1_0
  rw [splice_all _ _ 5 hzr1_5.size hCr1_4.size] at hs1_0
  have Bxr0y0_s1_0 := hus1_0.keepS Bxr0y0_1 (fun e => hner1_5_Bxr0y0.out e.symm)
  have Bxr0y1_s1_0 := hus1_0.keepS Bxr0y1_1 (fun e => hner1_5_Bxr0y1.out e.symm)
  have Bxr0y2_s1_0 := hus1_0.keepS Bxr0y2_1 (fun e => hner1_5_Bxr0y2.out e.symm)
  have Bxr1y5_s1_0 := hh hs1_0
  have HU1_0 := hh (HU1.out.step hus1_0 (fun i hi h => absurd hi (Nat.not_lt.2 (h.symm ▸ hger1_5.out))))
  clear hs1_0 hus1_0
  refine wpOps_nil ?_
  refine hK1 _ _ ?_
  clear hK1
  refine wp_seq_k fun K2 hK2 => ?_
  refine wp_region_qD #[true, true, true, true, true, true, true, true, false] ([.like (IsC 5 RE [dC]), .val (.pointer (some ⟨br0_0, 0 + 15, none⟩)), .val (.agg (zr0_0.extract (0 + 15) (0 + 15 + 5))), .val (.pointer (some ⟨br0_1, 0 + 15, none⟩)), .val (.agg (zr0_1.extract (0 + 15) (0 + 15 + 5))), .like (IsC 5 RE [t1 * t2]), .like (IsC 5 RE [dC * (t1 * t2)]), .blk ptrTo 39 (Ch 5 RE [0]), .val undef] : List SQ) (by kernel_rfl) (by kernel_rfl) (by kernel_rfl) (by kernel_rfl) ?_ ?_
  · intro i o listed an wn ho hls hst hun hdep hI hD K' hK'
    rcases slot_cases (l := [0, 1, 2, 3, 4, 5, 6, 7]) rfl ho hst with rfl | rfl | rfl | rfl | rfl | rfl | rfl | rfl | ⟨⟨⟩⟩
    · obtain rfl := Option.some.inj ho
      exact hI.cq hD hls rfl rfl rfl 94 #[] _ rfl #[] (by simp) (run_enter Tryd.func94 (by kernel_rfl) (by kernel_rfl)) (.like (IsC 5 RE [dC])) rfl rfl ((dP2 _).mono fun _ _ h => h.sq) hK'
    · obtain rfl := Option.some.inj ho
      have hvp : an.eval (.tmp 2) = ptrTo br0_0 := hI.oq (by kernel_rfl) rfl
      exact hI.pq hD hls rfl rfl rfl _ (run_fieldQ (g := br0_0) (off := 0) (k := 15) rfl hvp Tryd.underlying41 rfl (by rfl) szE wn) (.val (.pointer (some ⟨br0_0, 0 + 15, none⟩))) rfl rfl rfl hK'
    · obtain rfl := Option.some.inj ho
      obtain ⟨vp, hvp, rfl⟩ := hI.hq 1 _ 17 _ rfl rfl rfl (dp hdep 0 rfl rfl)
      exact hI.pq hD hls rfl rfl rfl _ (run_loadQ rfl (eval_of hvp) wn (hI.upd.keepD Bxr0y0_s1_0).out Tryd.underlying39 rfl szE (by rw [hzr0_0.size]; exact Nat.le_of_ble_eq_true rfl)) (.val (.agg (zr0_0.extract (0 + 15) (0 + 15 + 5)))) rfl rfl rfl hK'
    · obtain rfl := Option.some.inj ho
      have hvp : an.eval (.tmp 3) = ptrTo br0_1 := hI.oq (by kernel_rfl) rfl
      exact hI.pq hD hls rfl rfl rfl _ (run_fieldQ (g := br0_1) (off := 0) (k := 15) rfl hvp Tryd.underlying41 rfl (by rfl) szE wn) (.val (.pointer (some ⟨br0_1, 0 + 15, none⟩))) rfl rfl rfl hK'
    · obtain rfl := Option.some.inj ho
      obtain ⟨vp, hvp, rfl⟩ := hI.hq 3 _ 19 _ rfl rfl rfl (dp hdep 0 rfl rfl)
      exact hI.pq hD hls rfl rfl rfl _ (run_loadQ rfl (eval_of hvp) wn (hI.upd.keepD Bxr0y1_s1_0).out Tryd.underlying39 rfl szE (by rw [hzr0_1.size]; exact Nat.le_of_ble_eq_true rfl)) (.val (.agg (zr0_1.extract (0 + 15) (0 + 15 + 5)))) rfl rfl rfl hK'
    · obtain rfl := Option.some.inj ho
      obtain ⟨vp, hvp, rfl⟩ := hI.hq 2 _ 18 _ rfl rfl rfl (dp hdep 0 rfl rfl)
      obtain ⟨vq, hvq, rfl⟩ := hI.hq 4 _ 20 _ rfl rfl rfl (dp hdep 1 rfl rfl)
      exact hI.cq hD hls rfl rfl rfl 44 #[.tmp 18, .tmp 20] _ rfl #[.agg (zr0_0.extract (0 + 15) (0 + 15 + 5)), .agg (zr0_1.extract (0 + 15) (0 + 15 + 5))] (by simp [eval_of hvp, eval_of hvq]) (run_enter Tryd.func44 (by kernel_rfl) (by kernel_rfl)) (.like (IsC 5 RE [t1 * t2])) rfl rfl ((mulE (hzr0_0.at 3 (0 + 15) rfl rfl) (hzr0_1.at 3 (0 + 15) rfl rfl)).mono fun _ _ h => h.sq) hK'
    · obtain rfl := Option.some.inj ho
      obtain ⟨vp, hvp, ap, rfl, hCp⟩ := hI.hq 0 _ 16 _ rfl rfl rfl (dp hdep 0 rfl rfl)
      obtain ⟨vq, hvq, aq, rfl, hCq⟩ := hI.hq 5 _ 21 _ rfl rfl rfl (dp hdep 1 rfl rfl)
      exact hI.cq hD hls rfl rfl rfl 44 #[.tmp 16, .tmp 21] _ rfl #[.agg ap, .agg aq] (by simp [eval_of hvp, eval_of hvq]) (run_enter Tryd.func44 (by kernel_rfl) (by kernel_rfl)) (.like (IsC 5 RE [dC * (t1 * t2)])) rfl rfl ((mulE hCp hCq).mono fun _ _ h => h.sq) hK'
    · obtain rfl := Option.some.inj ho
      exact hI.newQ hD hls (Nat.le_refl _) (newsQ_spec (l := [7]) (by kernel_rfl) ⟨⟨_, _, rfl⟩, trivial⟩) rfl rfl rfl 39 zE _ (run_allocQ rfl zE_run wn) rfl zE_ch hK'
  intro fuel an w3 hf hI
  obtain ⟨vr2_0, hvr2_0, ar2_0, rfl, hCr2_0⟩ := hI.hq 0 _ 16 _ rfl rfl rfl rfl
  obtain ⟨vr2_1, hvr2_1, rfl⟩ := hI.hq 1 _ 17 _ rfl rfl rfl rfl
  obtain ⟨vr2_2, hvr2_2, rfl⟩ := hI.hq 2 _ 18 _ rfl rfl rfl rfl
  obtain ⟨vr2_3, hvr2_3, rfl⟩ := hI.hq 3 _ 19 _ rfl rfl rfl rfl
  obtain ⟨vr2_4, hvr2_4, rfl⟩ := hI.hq 4 _ 20 _ rfl rfl rfl rfl
  obtain ⟨vr2_5, hvr2_5, ar2_5, rfl, hCr2_5⟩ := hI.hq 5 _ 21 _ rfl rfl rfl rfl
  obtain ⟨vr2_6, hvr2_6, ar2_6, rfl, hCr2_6⟩ := hI.hq 6 _ 22 _ rfl rfl rfl rfl
  obtain ⟨vr2_7, hvr2_7, br2_7, zr2_7, rfl, hnr2_7, hbr2_7, hzr2_7⟩ := hI.hq 7 _ 6 _ rfl rfl rfl rfl
  have hupd := hI.upd
  have ha := hI.act [(16, .agg ar2_0), (17, .pointer (some ⟨br0_0, 0 + 15, none⟩)), (18, .agg (zr0_0.extract (0 + 15) (0 + 15 + 5))), (19, .pointer (some ⟨br0_1, 0 + 15, none⟩)), (20, .agg (zr0_1.extract (0 + 15) (0 + 15 + 5))), (21, .agg ar2_5), (22, .agg ar2_6), (6, ptrTo br2_7)] (by simp [hvr2_0, hvr2_1, hvr2_2, hvr2_3, hvr2_4, hvr2_5, hvr2_6, hvr2_7]) (by kernel_rfl)
  clear hI hvr2_0 hvr2_1 hvr2_2 hvr2_3 hvr2_4 hvr2_5 hvr2_6 hvr2_7
  subst ha
  simp only [List.foldl_cons, List.foldl_nil, List.setIfInBounds_toArray, List.set_cons_zero, List.set_cons_succ]
  have hner2_7_Bxr0y0_s1_0 := apartB Bxr0y0_s1_0 hnr2_7
  have hner2_7_Bxr0y1_s1_0 := apartB Bxr0y1_s1_0 hnr2_7
  have hner2_7_Bxr0y2_s1_0 := apartB Bxr0y2_s1_0 hnr2_7
  have hner2_7_Bxr1y5_s1_0 := apartB Bxr1y5_s1_0 hnr2_7
  have hger2_7 := geB HU1_0 hnr2_7
  have Bxr0y0_2 := hupd.keepD Bxr0y0_s1_0
  have Bxr0y1_2 := hupd.keepD Bxr0y1_s1_0
  have Bxr0y2_2 := hupd.keepD Bxr0y2_s1_0
  have Bxr1y5_2 := hupd.keepD Bxr1y5_s1_0
  have Bxr2y7 := hh hbr2_7
  have HU2 := hh (HU1_0.out.drew.trans hupd)
  clear hupd
  have hf0 : left #[true, true, true, true, true, true, true, true, false] 9 = 1 := by kernel_rfl
  have hf1 : left #[true, true, true, true, true, true, true, true, false] 9 ≤ fuel := hf
  obtain ⟨fu, rfl⟩ : ∃ fu, fuel = fu + 1 := ⟨fuel - 1, by omega⟩
  clear hf hf0 hf1
  refine wpAny_storeQ 8 rfl (by kernel_rfl) rfl rfl 39 (.tmp 6) (.tmp 22) rfl br2_7 0 5 rfl ar2_6 rfl 39 zr2_7 Bxr2y7.out szE hCr2_6.size (by rw [hzr2_7.size]; exact Nat.le_of_ble_eq_true rfl) hCr2_6.one' ?_
  intro ws2_0 hs2_0 hus2_0
  rw [splice_all _ _ 5 hzr2_7.size hCr2_6.size] at hs2_0
  have Bxr0y0_s2_0 := hus2_0.keepS Bxr0y0_2 (fun e => hner2_7_Bxr0y0_s1_0.out e.symm)
  have Bxr0y1_s2_0 := hus2_0.keepS Bxr0y1_2 (fun e => hner2_7_Bxr0y1_s1_0.out e.symm)
  have Bxr0y2_s2_0 := hus2_0.keepS Bxr0y2_2 (fun e => hner2_7_Bxr0y2_s1_0.out e.symm)
  have Bxr1y5_s2_0 := hus2_0.keepS Bxr1y5_2 (fun e => hner2_7_Bxr1y5_s1_0.out e.symm)
  have Bxr2y7_s2_0 := hh hs2_0
  have HU2_0 := hh (HU2.out.step hus2_0 (fun i hi h => absurd hi (Nat.not_lt.2 (h.symm ▸ hger2_7.out))))
  clear hs2_0 hus2_0
  refine wpAny_done (by kernel_rfl) ?_ _
  refine hK2 _ _ ?_
  clear hK2
  refine wp_seq_k fun K3 hK3 => ?_
  refine wp_region_qD #[true, true, true, true, true, true, true, true, true, false, false] ([.val (.agg ar1_4), .val (.agg ar2_6), .blk (fun b => .slice (some ⟨b, 0, none⟩) 2 2) 39 (Ch 5 RE [z1 * z2, dC * (t1 * t2)]), .like (IsC 5 RE [(z1 * z2) + (dC * (t1 * t2))]), .val (.agg ar1_4), .val (.agg ar2_6), .like (IsC 5 RE [(z1 * z2) - (dC * (t1 * t2))]), .blk ptrTo 39 (Ch 5 RE [0]), .blk ptrTo 39 (Ch 5 RE [0]), .val undef, .val undef] : List SQ) (by kernel_rfl) (by kernel_rfl) (by kernel_rfl) (by kernel_rfl) ?_ ?_
  · intro i o listed an wn ho hls hst hun hdep hI hD K' hK'
    rcases slot_cases (l := [0, 1, 2, 3, 4, 5, 6, 7, 8]) rfl ho hst with rfl | rfl | rfl | rfl | rfl | rfl | rfl | rfl | rfl | ⟨⟨⟩⟩
    · obtain rfl := Option.some.inj ho
      have hvp : an.eval (.tmp 5) = ptrTo br1_5 := hI.oq (by kernel_rfl) rfl
      exact hI.pq hD hls rfl rfl rfl _ (run_loadQ rfl hvp wn (hI.upd.keepD Bxr1y5_s2_0).out Tryd.underlying39 rfl szE (by rw [hCr1_4.size]; exact Nat.le_of_ble_eq_true rfl)) (.val (.agg ar1_4)) rfl (congrArg Value.agg (extract_all _ 5 hCr1_4.size)) rfl hK'
    · obtain rfl := Option.some.inj ho
      have hvp : an.eval (.tmp 6) = ptrTo br2_7 := hI.oq (by kernel_rfl) rfl
      exact hI.pq hD hls rfl rfl rfl _ (run_loadQ rfl hvp wn (hI.upd.keepD Bxr2y7_s2_0).out Tryd.underlying39 rfl szE (by rw [hCr2_6.size]; exact Nat.le_of_ble_eq_true rfl)) (.val (.agg ar2_6)) rfl (congrArg Value.agg (extract_all _ 5 hCr2_6.size)) rfl hK'
    · obtain rfl := Option.some.inj ho
      obtain ⟨vp, hvp, rfl⟩ := hI.hq 0 _ 23 _ rfl rfl rfl (dp hdep 0 rfl rfl)
      obtain ⟨vq, hvq, rfl⟩ := hI.hq 1 _ 24 _ rfl rfl rfl (dp hdep 1 rfl rfl)
      exact hI.rowQ hD hls (Nat.le_refl _) rfl rfl rfl _ _ _ _ (run_pairQ rfl (eval_of hvp) (eval_of hvq) hCr1_4.size hCr2_6.size wn) rfl (hCr1_4.cat hCr2_6) rfl hK'
    · obtain rfl := Option.some.inj ho
      obtain ⟨vp, hvp, bp, zp, rfl, hnp, hbp, hzp⟩ := hI.hq 2 _ 25 _ rfl rfl rfl (dp hdep 0 rfl rfl)
      exact hI.cq hD hls rfl rfl rfl 45 #[.tmp 25] _ rfl #[.slice (some ⟨bp, 0, none⟩) 2 2] (by simp [eval_of hvp]) (run_enter Tryd.func45 (by kernel_rfl) (by kernel_rfl)) (.like (IsC 5 RE [(z1 * z2) + (dC * (t1 * t2))])) rfl rfl ((addE hbp hzp).mono fun _ _ h => h.sq) hK'
    · obtain rfl := Option.some.inj ho
      have hvp : an.eval (.tmp 5) = ptrTo br1_5 := hI.oq (by kernel_rfl) rfl
      exact hI.pq hD hls rfl rfl rfl _ (run_loadQ rfl hvp wn (hI.upd.keepD Bxr1y5_s2_0).out Tryd.underlying39 rfl szE (by rw [hCr1_4.size]; exact Nat.le_of_ble_eq_true rfl)) (.val (.agg ar1_4)) rfl (congrArg Value.agg (extract_all _ 5 hCr1_4.size)) rfl hK'
    · obtain rfl := Option.some.inj ho
      have hvp : an.eval (.tmp 6) = ptrTo br2_7 := hI.oq (by kernel_rfl) rfl
      exact hI.pq hD hls rfl rfl rfl _ (run_loadQ rfl hvp wn (hI.upd.keepD Bxr2y7_s2_0).out Tryd.underlying39 rfl szE (by rw [hCr2_6.size]; exact Nat.le_of_ble_eq_true rfl)) (.val (.agg ar2_6)) rfl (congrArg Value.agg (extract_all _ 5 hCr2_6.size)) rfl hK'
    · obtain rfl := Option.some.inj ho
      obtain ⟨vp, hvp, rfl⟩ := hI.hq 4 _ 27 _ rfl rfl rfl (dp hdep 0 rfl rfl)
      obtain ⟨vq, hvq, rfl⟩ := hI.hq 5 _ 28 _ rfl rfl rfl (dp hdep 1 rfl rfl)
      exact hI.cq hD hls rfl rfl rfl 46 #[.tmp 27, .tmp 28] _ rfl #[.agg ar1_4, .agg ar2_6] (by simp [eval_of hvp, eval_of hvq]) (run_enter Tryd.func46 (by kernel_rfl) (by kernel_rfl)) (.like (IsC 5 RE [(z1 * z2) - (dC * (t1 * t2))])) rfl rfl ((subE (HT.out.upd (HU2_0.out.drew.trans hI.upd)) hCr1_4 hCr2_6).mono fun _ _ h => h.sq) hK'
    · obtain rfl := Option.some.inj ho
      exact hI.newQ hD hls (Nat.le_refl _) (newsQ_spec (l := [7, 8]) (by kernel_rfl) ⟨⟨_, _, rfl⟩, ⟨_, _, rfl⟩, trivial⟩) rfl rfl rfl 39 zE _ (run_allocQ rfl zE_run wn) rfl zE_ch hK'
    · obtain rfl := Option.some.inj ho
      exact hI.newQ hD hls (Nat.le_refl _) (newsQ_spec (l := [7, 8]) (by kernel_rfl) ⟨⟨_, _, rfl⟩, ⟨_, _, rfl⟩, trivial⟩) rfl rfl rfl 39 zE _ (run_allocQ rfl zE_run wn) rfl zE_ch hK'
  intro fuel an w4 hf hI
  obtain ⟨vr3_0, hvr3_0, rfl⟩ := hI.hq 0 _ 23 _ rfl rfl rfl rfl
  obtain ⟨vr3_1, hvr3_1, rfl⟩ := hI.hq 1 _ 24 _ rfl rfl rfl rfl
  obtain ⟨vr3_2, hvr3_2, br3_2, zr3_2, rfl, hnr3_2, hbr3_2, hzr3_2⟩ := hI.hq 2 _ 25 _ rfl rfl rfl rfl
  obtain ⟨vr3_3, hvr3_3, ar3_3, rfl, hCr3_3⟩ := hI.hq 3 _ 26 _ rfl rfl rfl rfl
  obtain ⟨vr3_4, hvr3_4, rfl⟩ := hI.hq 4 _ 27 _ rfl rfl rfl rfl
  obtain ⟨vr3_5, hvr3_5, rfl⟩ := hI.hq 5 _ 28 _ rfl rfl rfl rfl
  obtain ⟨vr3_6, hvr3_6, ar3_6, rfl, hCr3_6⟩ := hI.hq 6 _ 29 _ rfl rfl rfl rfl
  obtain ⟨vr3_7, hvr3_7, br3_7, zr3_7, rfl, hnr3_7, hbr3_7, hzr3_7⟩ := hI.hq 7 _ 7 _ rfl rfl rfl rfl
  obtain ⟨vr3_8, hvr3_8, br3_8, zr3_8, rfl, hnr3_8, hbr3_8, hzr3_8⟩ := hI.hq 8 _ 8 _ rfl rfl rfl rfl
  have hupd := hI.upd
  have hner3_7_r3_8 := hh (show br3_7 ≠ br3_8 from fun e => hI.apart 7 8 _ _ 7 8 (by omega) rfl rfl rfl rfl rfl rfl rfl rfl (by rw [hvr3_7, hvr3_8, e]))
  have ha := hI.act [(23, .agg ar1_4), (24, .agg ar2_6), (25, .slice (some ⟨br3_2, 0, none⟩) 2 2), (26, .agg ar3_3), (27, .agg ar1_4), (28, .agg ar2_6), (29, .agg ar3_6), (7, ptrTo br3_7), (8, ptrTo br3_8)] (by simp [hvr3_0, hvr3_1, hvr3_2, hvr3_3, hvr3_4, hvr3_5, hvr3_6, hvr3_7, hvr3_8]) (by kernel_rfl)
  clear hI hvr3_0 hvr3_1 hvr3_2 hvr3_3 hvr3_4 hvr3_5 hvr3_6 hvr3_7 hvr3_8
  subst ha
  simp only [List.foldl_cons, List.foldl_nil, List.setIfInBounds_toArray, List.set_cons_zero, List.set_cons_succ]
  have hner3_7_Bxr0y0_s2_0 := apartB Bxr0y0_s2_0 hnr3_7
  have hner3_7_Bxr0y1_s2_0 := apartB Bxr0y1_s2_0 hnr3_7
  have hner3_7_Bxr0y2_s2_0 := apartB Bxr0y2_s2_0 hnr3_7
  have hner3_7_Bxr1y5_s2_0 := apartB Bxr1y5_s2_0 hnr3_7
  have hner3_7_Bxr2y7_s2_0 := apartB Bxr2y7_s2_0 hnr3_7
  have hger3_7 := geB HU2_0 hnr3_7
  have hner3_8_Bxr0y0_s2_0 := apartB Bxr0y0_s2_0 hnr3_8
  have hner3_8_Bxr0y1_s2_0 := apartB Bxr0y1_s2_0 hnr3_8
  have hner3_8_Bxr0y2_s2_0 := apartB Bxr0y2_s2_0 hnr3_8
  have hner3_8_Bxr1y5_s2_0 := apartB Bxr1y5_s2_0 hnr3_8
  have hner3_8_Bxr2y7_s2_0 := apartB Bxr2y7_s2_0 hnr3_8
  have hger3_8 := geB HU2_0 hnr3_8
  have Bxr0y0_3 := hupd.keepD Bxr0y0_s2_0
  have Bxr0y1_3 := hupd.keepD Bxr0y1_s2_0
  have Bxr0y2_3 := hupd.keepD Bxr0y2_s2_0
  have Bxr1y5_3 := hupd.keepD Bxr1y5_s2_0
  have Bxr2y7_3 := hupd.keepD Bxr2y7_s2_0
  have Bxr3y7 := hh hbr3_7
  have Bxr3y8 := hh hbr3_8
  have HU3 := hh (HU2_0.out.drew.trans hupd)
  clear hupd
  have hf0 : left #[true, true, true, true, true, true, true, true, true, false, false] 11 = 2 := by kernel_rfl
  have hf1 : left #[true, true, true, true, true, true, true, true, true, false, false] 11 ≤ fuel := hf
  obtain ⟨fu, rfl⟩ : ∃ fu, fuel = fu + 2 := ⟨fuel - 2, by omega⟩
  clear hf hf0 hf1
  refine wpAny_storeQ 9 rfl (by kernel_rfl) rfl rfl 39 (.tmp 7) (.tmp 26) rfl br3_7 0 5 rfl ar3_3 rfl 39 zr3_7 Bxr3y7.out szE hCr3_3.size (by rw [hzr3_7.size]; exact Nat.le_of_ble_eq_true rfl) hCr3_3.one' ?_
  intro ws3_0 hs3_0 hus3_0
  rw [splice_all _ _ 5 hzr3_7.size hCr3_3.size] at hs3_0
  have Bxr0y0_s3_0 := hus3_0.keepS Bxr0y0_3 (fun e => hner3_7_Bxr0y0_s2_0.out e.symm)
  have Bxr0y1_s3_0 := hus3_0.keepS Bxr0y1_3 (fun e => hner3_7_Bxr0y1_s2_0.out e.symm)
  have Bxr0y2_s3_0 := hus3_0.keepS Bxr0y2_3 (fun e => hner3_7_Bxr0y2_s2_0.out e.symm)
  have Bxr1y5_s3_0 := hus3_0.keepS Bxr1y5_3 (fun e => hner3_7_Bxr1y5_s2_0.out e.symm)
  have Bxr2y7_s3_0 := hus3_0.keepS Bxr2y7_3 (fun e => hner3_7_Bxr2y7_s2_0.out e.symm)
  have Bxr3y8_s3_0 := hus3_0.keepS Bxr3y8 (fun e => hner3_7_r3_8.out e.symm)
  have Bxr3y7_s3_0 := hh hs3_0
  have HU3_0 := hh (HU3.out.step hus3_0 (fun i hi h => absurd hi (Nat.not_lt.2 (h.symm ▸ hger3_7.out))))
  clear hs3_0 hus3_0
  refine wpAny_storeQ 10 rfl (by kernel_rfl) rfl rfl 39 (.tmp 8) (.tmp 29) rfl br3_8 0 5 rfl ar3_6 rfl 39 zr3_8 Bxr3y8_s3_0.out szE hCr3_6.size (by rw [hzr3_8.size]; exact Nat.le_of_ble_eq_true rfl) hCr3_6.one' ?_
  intro ws3_1 hs3_1 hus3_1
  rw [splice_all _ _ 5 hzr3_8.size hCr3_6.size] at hs3_1
  have Bxr0y0_s3_1 := hus3_1.keepS Bxr0y0_s3_0 (fun e => hner3_8_Bxr0y0_s2_0.out e.symm)
  have Bxr0y1_s3_1 := hus3_1.keepS Bxr0y1_s3_0 (fun e => hner3_8_Bxr0y1_s2_0.out e.symm)
  have Bxr0y2_s3_1 := hus3_1.keepS Bxr0y2_s3_0 (fun e => hner3_8_Bxr0y2_s2_0.out e.symm)
  have Bxr1y5_s3_1 := hus3_1.keepS Bxr1y5_s3_0 (fun e => hner3_8_Bxr1y5_s2_0.out e.symm)
  have Bxr2y7_s3_1 := hus3_1.keepS Bxr2y7_s3_0 (fun e => hner3_8_Bxr2y7_s2_0.out e.symm)
  have Bxr3y7_s3_1 := hus3_1.keepS Bxr3y7_s3_0 (fun e => hner3_7_r3_8.out e)
  have Bxr3y8_s3_1 := hh hs3_1
  have HU3_1 := hh (HU3_0.out.step hus3_1 (fun i hi h => absurd hi (Nat.not_lt.2 (h.symm ▸ hger3_8.out))))
  clear hs3_1 hus3_1
  refine wpAny_done (by kernel_rfl) ?_ _
  refine hK3 _ _ ?_
  clear hK3
  refine wp_seq_k fun K4 hK4 => ?_
  refine wp_region_qD #[true, true, true, true, true, true, true, true, true, true, true, true, true, false] ([.val (.pointer (some ⟨br0_0, 0 + 0, none⟩)), .val (.agg (zr0_0.extract (0 + 0) (0 + 0 + 5))), .val (.pointer (some ⟨br0_1, 0 + 5, none⟩)), .val (.agg (zr0_1.extract (0 + 5) (0 + 5 + 5))), .like (IsC 5 RE [x1 * y2]), .val (.pointer (some ⟨br0_1, 0 + 0, none⟩)), .val (.agg (zr0_1.extract (0 + 0) (0 + 0 + 5))), .val (.pointer (some ⟨br0_0, 0 + 5, none⟩)), .val (.agg (zr0_0.extract (0 + 5) (0 + 5 + 5))), .like (IsC 5 RE [x2 * y1]), .blk (fun b => .slice (some ⟨b, 0, none⟩) 2 2) 39 (Ch 5 RE [x1 * y2, x2 * y1]), .like (IsC 5 RE [(x1 * y2) + (x2 * y1)]), .blk ptrTo 39 (Ch 5 RE [0]), .val undef] : List SQ) (by kernel_rfl) (by kernel_rfl) (by kernel_rfl) (by kernel_rfl) ?_ ?_
  · intro i o listed an wn ho hls hst hun hdep hI hD K' hK'
    rcases slot_cases (l := [0, 1, 2, 3, 4, 5, 6, 7, 8, 9, 10, 11, 12]) rfl ho hst with rfl | rfl | rfl | rfl | rfl | rfl | rfl | rfl | rfl | rfl | rfl | rfl | rfl | ⟨⟨⟩⟩
    · obtain rfl := Option.some.inj ho
      have hvp : an.eval (.tmp 2) = ptrTo br0_0 := hI.oq (by kernel_rfl) rfl
      exact hI.pq hD hls rfl rfl rfl _ (run_fieldQ (g := br0_0) (off := 0) (k := 0) rfl hvp Tryd.underlying41 rfl (by rfl) szE wn) (.val (.pointer (some ⟨br0_0, 0 + 0, none⟩))) rfl rfl rfl hK'
    · obtain rfl := Option.some.inj ho
      obtain ⟨vp, hvp, rfl⟩ := hI.hq 0 _ 30 _ rfl rfl rfl (dp hdep 0 rfl rfl)
      exact hI.pq hD hls rfl rfl rfl _ (run_loadQ rfl (eval_of hvp) wn (hI.upd.keepD Bxr0y0_s3_1).out Tryd.underlying39 rfl szE (by rw [hzr0_0.size]; exact Nat.le_of_ble_eq_true rfl)) (.val (.agg (zr0_0.extract (0 + 0) (0 + 0 + 5)))) rfl rfl rfl hK'
    · obtain rfl := Option.some.inj ho
      have hvp : an.eval (.tmp 3) = ptrTo br0_1 := hI.oq (by kernel_rfl) rfl
      exact hI.pq hD hls rfl rfl rfl _ (run_fieldQ (g := br0_1) (off := 0) (k := 5) rfl hvp Tryd.underlying41 rfl (by rfl) szE wn) (.val (.pointer (some ⟨br0_1, 0 + 5, none⟩))) rfl rfl rfl hK'
    · obtain rfl := Option.some.inj ho
      obtain ⟨vp, hvp, rfl⟩ := hI.hq 2 _ 32 _ rfl rfl rfl (dp hdep 0 rfl rfl)
      exact hI.pq hD hls rfl rfl rfl _ (run_loadQ rfl (eval_of hvp) wn (hI.upd.keepD Bxr0y1_s3_1).out Tryd.underlying39 rfl szE (by rw [hzr0_1.size]; exact Nat.le_of_ble_eq_true rfl)) (.val (.agg (zr0_1.extract (0 + 5) (0 + 5 + 5)))) rfl rfl rfl hK'
    · obtain rfl := Option.some.inj ho
      obtain ⟨vp, hvp, rfl⟩ := hI.hq 1 _ 31 _ rfl rfl rfl (dp hdep 0 rfl rfl)
      obtain ⟨vq, hvq, rfl⟩ := hI.hq 3 _ 33 _ rfl rfl rfl (dp hdep 1 rfl rfl)
      exact hI.cq hD hls rfl rfl rfl 44 #[.tmp 31, .tmp 33] _ rfl #[.agg (zr0_0.extract (0 + 0) (0 + 0 + 5)), .agg (zr0_1.extract (0 + 5) (0 + 5 + 5))] (by simp [eval_of hvp, eval_of hvq]) (run_enter Tryd.func44 (by kernel_rfl) (by kernel_rfl)) (.like (IsC 5 RE [x1 * y2])) rfl rfl ((mulE (hzr0_0.at 0 (0 + 0) rfl rfl) (hzr0_1.at 1 (0 + 5) rfl rfl)).mono fun _ _ h => h.sq) hK'
    · obtain rfl := Option.some.inj ho
      have hvp : an.eval (.tmp 3) = ptrTo br0_1 := hI.oq (by kernel_rfl) rfl
      exact hI.pq hD hls rfl rfl rfl _ (run_fieldQ (g := br0_1) (off := 0) (k := 0) rfl hvp Tryd.underlying41 rfl (by rfl) szE wn) (.val (.pointer (some ⟨br0_1, 0 + 0, none⟩))) rfl rfl rfl hK'
    · obtain rfl := Option.some.inj ho
      obtain ⟨vp, hvp, rfl⟩ := hI.hq 5 _ 35 _ rfl rfl rfl (dp hdep 0 rfl rfl)
      exact hI.pq hD hls rfl rfl rfl _ (run_loadQ rfl (eval_of hvp) wn (hI.upd.keepD Bxr0y1_s3_1).out Tryd.underlying39 rfl szE (by rw [hzr0_1.size]; exact Nat.le_of_ble_eq_true rfl)) (.val (.agg (zr0_1.extract (0 + 0) (0 + 0 + 5)))) rfl rfl rfl hK'
    · obtain rfl := Option.some.inj ho
      have hvp : an.eval (.tmp 2) = ptrTo br0_0 := hI.oq (by kernel_rfl) rfl
      exact hI.pq hD hls rfl rfl rfl _ (run_fieldQ (g := br0_0) (off := 0) (k := 5) rfl hvp Tryd.underlying41 rfl (by rfl) szE wn) (.val (.pointer (some ⟨br0_0, 0 + 5, none⟩))) rfl rfl rfl hK'
    · obtain rfl := Option.some.inj ho
      obtain ⟨vp, hvp, rfl⟩ := hI.hq 7 _ 37 _ rfl rfl rfl (dp hdep 0 rfl rfl)
      exact hI.pq hD hls rfl rfl rfl _ (run_loadQ rfl (eval_of hvp) wn (hI.upd.keepD Bxr0y0_s3_1).out Tryd.underlying39 rfl szE (by rw [hzr0_0.size]; exact Nat.le_of_ble_eq_true rfl)) (.val (.agg (zr0_0.extract (0 + 5) (0 + 5 + 5)))) rfl rfl rfl hK'
    · obtain rfl := Option.some.inj ho
      obtain ⟨vp, hvp, rfl⟩ := hI.hq 6 _ 36 _ rfl rfl rfl (dp hdep 0 rfl rfl)
      obtain ⟨vq, hvq, rfl⟩ := hI.hq 8 _ 38 _ rfl rfl rfl (dp hdep 1 rfl rfl)
      exact hI.cq hD hls rfl rfl rfl 44 #[.tmp 36, .tmp 38] _ rfl #[.agg (zr0_1.extract (0 + 0) (0 + 0 + 5)), .agg (zr0_0.extract (0 + 5) (0 + 5 + 5))] (by simp [eval_of hvp, eval_of hvq]) (run_enter Tryd.func44 (by kernel_rfl) (by kernel_rfl)) (.like (IsC 5 RE [x2 * y1])) rfl rfl ((mulE (hzr0_1.at 0 (0 + 0) rfl rfl) (hzr0_0.at 1 (0 + 5) rfl rfl)).mono fun _ _ h => h.sq) hK'
    · obtain rfl := Option.some.inj ho
      obtain ⟨vp, hvp, ap, rfl, hCp⟩ := hI.hq 4 _ 34 _ rfl rfl rfl (dp hdep 0 rfl rfl)
      obtain ⟨vq, hvq, aq, rfl, hCq⟩ := hI.hq 9 _ 39 _ rfl rfl rfl (dp hdep 1 rfl rfl)
      exact hI.rowQ hD hls (Nat.le_refl _) rfl rfl rfl _ _ _ _ (run_pairQ rfl (eval_of hvp) (eval_of hvq) hCp.size hCq.size wn) rfl (hCp.cat hCq) rfl hK'
    · obtain rfl := Option.some.inj ho
      obtain ⟨vp, hvp, bp, zp, rfl, hnp, hbp, hzp⟩ := hI.hq 10 _ 40 _ rfl rfl rfl (dp hdep 0 rfl rfl)
      exact hI.cq hD hls rfl rfl rfl 45 #[.tmp 40] _ rfl #[.slice (some ⟨bp, 0, none⟩) 2 2] (by simp [eval_of hvp]) (run_enter Tryd.func45 (by kernel_rfl) (by kernel_rfl)) (.like (IsC 5 RE [(x1 * y2) + (x2 * y1)])) rfl rfl ((addE hbp hzp).mono fun _ _ h => h.sq) hK'
    · obtain rfl := Option.some.inj ho
      exact hI.newQ hD hls (Nat.le_refl _) (newsQ_spec (l := [12]) (by kernel_rfl) ⟨⟨_, _, rfl⟩, trivial⟩) rfl rfl rfl 39 zE _ (run_allocQ rfl zE_run wn) rfl zE_ch hK'
  intro fuel an w5 hf hI
  obtain ⟨vr4_0, hvr4_0, rfl⟩ := hI.hq 0 _ 30 _ rfl rfl rfl rfl
  obtain ⟨vr4_1, hvr4_1, rfl⟩ := hI.hq 1 _ 31 _ rfl rfl rfl rfl
  obtain ⟨vr4_2, hvr4_2, rfl⟩ := hI.hq 2 _ 32 _ rfl rfl rfl rfl
  obtain ⟨vr4_3, hvr4_3, rfl⟩ := hI.hq 3 _ 33 _ rfl rfl rfl rfl
  obtain ⟨vr4_4, hvr4_4, ar4_4, rfl, hCr4_4⟩ := hI.hq 4 _ 34 _ rfl rfl rfl rfl
  obtain ⟨vr4_5, hvr4_5, rfl⟩ := hI.hq 5 _ 35 _ rfl rfl rfl rfl
  obtain ⟨vr4_6, hvr4_6, rfl⟩ := hI.hq 6 _ 36 _ rfl rfl rfl rfl
  obtain ⟨vr4_7, hvr4_7, rfl⟩ := hI.hq 7 _ 37 _ rfl rfl rfl rfl
  obtain ⟨vr4_8, hvr4_8, rfl⟩ := hI.hq 8 _ 38 _ rfl rfl rfl rfl
  obtain ⟨vr4_9, hvr4_9, ar4_9, rfl, hCr4_9⟩ := hI.hq 9 _ 39 _ rfl rfl rfl rfl
  obtain ⟨vr4_10, hvr4_10, br4_10, zr4_10, rfl, hnr4_10, hbr4_10, hzr4_10⟩ := hI.hq 10 _ 40 _ rfl rfl rfl rfl
  obtain ⟨vr4_11, hvr4_11, ar4_11, rfl, hCr4_11⟩ := hI.hq 11 _ 41 _ rfl rfl rfl rfl
  obtain ⟨vr4_12, hvr4_12, br4_12, zr4_12, rfl, hnr4_12, hbr4_12, hzr4_12⟩ := hI.hq 12 _ 9 _ rfl rfl rfl rfl
  have hupd := hI.upd
  have ha := hI.act [(30, .pointer (some ⟨br0_0, 0 + 0, none⟩)), (31, .agg (zr0_0.extract (0 + 0) (0 + 0 + 5))), (32, .pointer (some ⟨br0_1, 0 + 5, none⟩)), (33, .agg (zr0_1.extract (0 + 5) (0 + 5 + 5))), (34, .agg ar4_4), (35, .pointer (some ⟨br0_1, 0 + 0, none⟩)), (36, .agg (zr0_1.extract (0 + 0) (0 + 0 + 5))), (37, .pointer (some ⟨br0_0, 0 + 5, none⟩)), (38, .agg (zr0_0.extract (0 + 5) (0 + 5 + 5))), (39, .agg ar4_9), (40, .slice (some ⟨br4_10, 0, none⟩) 2 2), (41, .agg ar4_11), (9, ptrTo br4_12)] (by simp [hvr4_0, hvr4_1, hvr4_2, hvr4_3, hvr4_4, hvr4_5, hvr4_6, hvr4_7, hvr4_8, hvr4_9, hvr4_10, hvr4_11, hvr4_12]) (by kernel_rfl)
  clear hI hvr4_0 hvr4_1 hvr4_2 hvr4_3 hvr4_4 hvr4_5 hvr4_6 hvr4_7 hvr4_8 hvr4_9 hvr4_10 hvr4_11 hvr4_12
  subst ha
  simp only [List.foldl_cons, List.foldl_nil, List.setIfInBounds_toArray, List.set_cons_zero, List.set_cons_succ]
  have hner4_12_Bxr0y0_s3_1 := apartB Bxr0y0_s3_1 hnr4_12
  have hner4_12_Bxr0y1_s3_1 := apartB Bxr0y1_s3_1 hnr4_12
  have hner4_12_Bxr0y2_s3_1 := apartB Bxr0y2_s3_1 hnr4_12
  have hner4_12_Bxr1y5_s3_1 := apartB Bxr1y5_s3_1 hnr4_12
  have hner4_12_Bxr2y7_s3_1 := apartB Bxr2y7_s3_1 hnr4_12
  have hner4_12_Bxr3y7_s3_1 := apartB Bxr3y7_s3_1 hnr4_12
  have hner4_12_Bxr3y8_s3_1 := apartB Bxr3y8_s3_1 hnr4_12
  have hger4_12 := geB HU3_1 hnr4_12
  have Bxr0y0_4 := hupd.keepD Bxr0y0_s3_1
  have Bxr0y1_4 := hupd.keepD Bxr0y1_s3_1
  have Bxr0y2_4 := hupd.keepD Bxr0y2_s3_1
  have Bxr1y5_4 := hupd.keepD Bxr1y5_s3_1
  have Bxr2y7_4 := hupd.keepD Bxr2y7_s3_1
  have Bxr3y7_4 := hupd.keepD Bxr3y7_s3_1
  have Bxr3y8_4 := hupd.keepD Bxr3y8_s3_1
  have Bxr4y12 := hh hbr4_12
  have HU4 := hh (HU3_1.out.drew.trans hupd)
  clear hupd
  have hf0 : left #[true, true, true, true, true, true, true, true, true, true, true, true, true, false] 14 = 1 := by kernel_rfl
  have hf1 : left #[true, true, true, true, true, true, true, true, true, true, true, true, true, false] 14 ≤ fuel := hf
  obtain ⟨fu, rfl⟩ : ∃ fu, fuel = fu + 1 := ⟨fuel - 1, by omega⟩
  clear hf hf0 hf1
  refine wpAny_storeQ 13 rfl (by kernel_rfl) rfl rfl 39 (.tmp 9) (.tmp 41) rfl br4_12 0 5 rfl ar4_11 rfl 39 zr4_12 Bxr4y12.out szE hCr4_11.size (by rw [hzr4_12.size]; exact Nat.le_of_ble_eq_true rfl) hCr4_11.one' ?_
  intro ws4_0 hs4_0 hus4_0
  rw [splice_all _ _ 5 hzr4_12.size hCr4_11.size] at hs4_0
  have Bxr0y0_s4_0 := hus4_0.keepS Bxr0y0_4 (fun e => hner4_12_Bxr0y0_s3_1.out e.symm)
  have Bxr0y1_s4_0 := hus4_0.keepS Bxr0y1_4 (fun e => hner4_12_Bxr0y1_s3_1.out e.symm)
  have Bxr0y2_s4_0 := hus4_0.keepS Bxr0y2_4 (fun e => hner4_12_Bxr0y2_s3_1.out e.symm)
  have Bxr1y5_s4_0 := hus4_0.keepS Bxr1y5_4 (fun e => hner4_12_Bxr1y5_s3_1.out e.symm)
  have Bxr2y7_s4_0 := hus4_0.keepS Bxr2y7_4 (fun e => hner4_12_Bxr2y7_s3_1.out e.symm)
  have Bxr3y7_s4_0 := hus4_0.keepS Bxr3y7_4 (fun e => hner4_12_Bxr3y7_s3_1.out e.symm)
  have Bxr3y8_s4_0 := hus4_0.keepS Bxr3y8_4 (fun e => hner4_12_Bxr3y8_s3_1.out e.symm)
  have Bxr4y12_s4_0 := hh hs4_0
  have HU4_0 := hh (HU4.out.step hus4_0 (fun i hi h => absurd hi (Nat.not_lt.2 (h.symm ▸ hger4_12.out))))
  clear hs4_0 hus4_0
  refine wpAny_done (by kernel_rfl) ?_ _
  refine hK4 _ _ ?_
  clear hK4
  refine wp_seq_k fun K5 hK5 => ?_
  refine wp_region_qD #[true, true, true, true, true, true, true, true, true, true, true, true, true, false] ([.val (.pointer (some ⟨br0_0, 0 + 5, none⟩)), .val (.agg (zr0_0.extract (0 + 5) (0 + 5 + 5))), .val (.pointer (some ⟨br0_1, 0 + 5, none⟩)), .val (.agg (zr0_1.extract (0 + 5) (0 + 5 + 5))), .like (IsC 5 RE [y1 * y2]), .val (.pointer (some ⟨br0_0, 0 + 0, none⟩)), .val (.agg (zr0_0.extract (0 + 0) (0 + 0 + 5))), .val (.pointer (some ⟨br0_1, 0 + 0, none⟩)), .val (.agg (zr0_1.extract (0 + 0) (0 + 0 + 5))), .like (IsC 5 RE [x1 * x2]), .blk (fun b => .slice (some ⟨b, 0, none⟩) 2 2) 39 (Ch 5 RE [y1 * y2, x1 * x2]), .like (IsC 5 RE [(y1 * y2) + (x1 * x2)]), .blk ptrTo 39 (Ch 5 RE [0]), .val undef] : List SQ) (by kernel_rfl) (by kernel_rfl) (by kernel_rfl) (by kernel_rfl) ?_ ?_
  · intro i o listed an wn ho hls hst hun hdep hI hD K' hK'
    rcases slot_cases (l := [0, 1, 2, 3, 4, 5, 6, 7, 8, 9, 10, 11, 12]) rfl ho hst with rfl | rfl | rfl | rfl | rfl | rfl | rfl | rfl | rfl | rfl | rfl | rfl | rfl | ⟨⟨⟩⟩
    · obtain rfl := Option.some.inj ho
      have hvp : an.eval (.tmp 2) = ptrTo br0_0 := hI.oq (by kernel_rfl) rfl
      exact hI.pq hD hls rfl rfl rfl _ (run_fieldQ (g := br0_0) (off := 0) (k := 5) rfl hvp Tryd.underlying41 rfl (by rfl) szE wn) (.val (.pointer (some ⟨br0_0, 0 + 5, none⟩))) rfl rfl rfl hK'
    · obtain rfl := Option.some.inj ho
      obtain ⟨vp, hvp, rfl⟩ := hI.hq 0 _ 42 _ rfl rfl rfl (dp hdep 0 rfl rfl)
      exact hI.pq hD hls rfl rfl rfl _ (run_loadQ rfl (eval_of hvp) wn (hI.upd.keepD Bxr0y0_s4_0).out Tryd.underlying39 rfl szE (by rw [hzr0_0.size]; exact Nat.le_of_ble_eq_true rfl)) (.val (.agg (zr0_0.extract (0 + 5) (0 + 5 + 5)))) rfl rfl rfl hK'
    · obtain rfl := Option.some.inj ho
      have hvp : an.eval (.tmp 3) = ptrTo br0_1 := hI.oq (by kernel_rfl) rfl
      exact hI.pq hD hls rfl rfl rfl _ (run_fieldQ (g := br0_1) (off := 0) (k := 5) rfl hvp Tryd.underlying41 rfl (by rfl) szE wn) (.val (.pointer (some ⟨br0_1, 0 + 5, none⟩))) rfl rfl rfl hK'
    · obtain rfl := Option.some.inj ho
      obtain ⟨vp, hvp, rfl⟩ := hI.hq 2 _ 44 _ rfl rfl rfl (dp hdep 0 rfl rfl)
      exact hI.pq hD hls rfl rfl rfl _ (run_loadQ rfl (eval_of hvp) wn (hI.upd.keepD Bxr0y1_s4_0).out Tryd.underlying39 rfl szE (by rw [hzr0_1.size]; exact Nat.le_of_ble_eq_true rfl)) (.val (.agg (zr0_1.extract (0 + 5) (0 + 5 + 5)))) rfl rfl rfl hK'
    · obtain rfl := Option.some.inj ho
      obtain ⟨vp, hvp, rfl⟩ := hI.hq 1 _ 43 _ rfl rfl rfl (dp hdep 0 rfl rfl)
      obtain ⟨vq, hvq, rfl⟩ := hI.hq 3 _ 45 _ rfl rfl rfl (dp hdep 1 rfl rfl)
      exact hI.cq hD hls rfl rfl rfl 44 #[.tmp 43, .tmp 45] _ rfl #[.agg (zr0_0.extract (0 + 5) (0 + 5 + 5)), .agg (zr0_1.extract (0 + 5) (0 + 5 + 5))] (by simp [eval_of hvp, eval_of hvq]) (run_enter Tryd.func44 (by kernel_rfl) (by kernel_rfl)) (.like (IsC 5 RE [y1 * y2])) rfl rfl ((mulE (hzr0_0.at 1 (0 + 5) rfl rfl) (hzr0_1.at 1 (0 + 5) rfl rfl)).mono fun _ _ h => h.sq) hK'
    · obtain rfl := Option.some.inj ho
      have hvp : an.eval (.tmp 2) = ptrTo br0_0 := hI.oq (by kernel_rfl) rfl
      exact hI.pq hD hls rfl rfl rfl _ (run_fieldQ (g := br0_0) (off := 0) (k := 0) rfl hvp Tryd.underlying41 rfl (by rfl) szE wn) (.val (.pointer (some ⟨br0_0, 0 + 0, none⟩))) rfl rfl rfl hK'
    · obtain rfl := Option.some.inj ho
      obtain ⟨vp, hvp, rfl⟩ := hI.hq 5 _ 47 _ rfl rfl rfl (dp hdep 0 rfl rfl)
      exact hI.pq hD hls rfl rfl rfl _ (run_loadQ rfl (eval_of hvp) wn (hI.upd.keepD Bxr0y0_s4_0).out Tryd.underlying39 rfl szE (by rw [hzr0_0.size]; exact Nat.le_of_ble_eq_true rfl)) (.val (.agg (zr0_0.extract (0 + 0) (0 + 0 + 5)))) rfl rfl rfl hK'
    · obtain rfl := Option.some.inj ho
      have hvp : an.eval (.tmp 3) = ptrTo br0_1 := hI.oq (by kernel_rfl) rfl
      exact hI.pq hD hls rfl rfl rfl _ (run_fieldQ (g := br0_1) (off := 0) (k := 0) rfl hvp Tryd.underlying41 rfl (by rfl) szE wn) (.val (.pointer (some ⟨br0_1, 0 + 0, none⟩))) rfl rfl rfl hK'
    · obtain rfl := Option.some.inj ho
      obtain ⟨vp, hvp, rfl⟩ := hI.hq 7 _ 49 _ rfl rfl rfl (dp hdep 0 rfl rfl)
      exact hI.pq hD hls rfl rfl rfl _ (run_loadQ rfl (eval_of hvp) wn (hI.upd.keepD Bxr0y1_s4_0).out Tryd.underlying39 rfl szE (by rw [hzr0_1.size]; exact Nat.le_of_ble_eq_true rfl)) (.val (.agg (zr0_1.extract (0 + 0) (0 + 0 + 5)))) rfl rfl rfl hK'
    · obtain rfl := Option.some.inj ho
      obtain ⟨vp, hvp, rfl⟩ := hI.hq 6 _ 48 _ rfl rfl rfl (dp hdep 0 rfl rfl)
      obtain ⟨vq, hvq, rfl⟩ := hI.hq 8 _ 50 _ rfl rfl rfl (dp hdep 1 rfl rfl)
      exact hI.cq hD hls rfl rfl rfl 44 #[.tmp 48, .tmp 50] _ rfl #[.agg (zr0_0.extract (0 + 0) (0 + 0 + 5)), .agg (zr0_1.extract (0 + 0) (0 + 0 + 5))] (by simp [eval_of hvp, eval_of hvq]) (run_enter Tryd.func44 (by kernel_rfl) (by kernel_rfl)) (.like (IsC 5 RE [x1 * x2])) rfl rfl ((mulE (hzr0_0.at 0 (0 + 0) rfl rfl) (hzr0_1.at 0 (0 + 0) rfl rfl)).mono fun _ _ h => h.sq) hK'
    · obtain rfl := Option.some.inj ho
      obtain ⟨vp, hvp, ap, rfl, hCp⟩ := hI.hq 4 _ 46 _ rfl rfl rfl (dp hdep 0 rfl rfl)
      obtain ⟨vq, hvq, aq, rfl, hCq⟩ := hI.hq 9 _ 51 _ rfl rfl rfl (dp hdep 1 rfl rfl)
      exact hI.rowQ hD hls (Nat.le_refl _) rfl rfl rfl _ _ _ _ (run_pairQ rfl (eval_of hvp) (eval_of hvq) hCp.size hCq.size wn) rfl (hCp.cat hCq) rfl hK'
    · obtain rfl := Option.some.inj ho
      obtain ⟨vp, hvp, bp, zp, rfl, hnp, hbp, hzp⟩ := hI.hq 10 _ 52 _ rfl rfl rfl (dp hdep 0 rfl rfl)
      exact hI.cq hD hls rfl rfl rfl 45 #[.tmp 52] _ rfl #[.slice (some ⟨bp, 0, none⟩) 2 2] (by simp [eval_of hvp]) (run_enter Tryd.func45 (by kernel_rfl) (by kernel_rfl)) (.like (IsC 5 RE [(y1 * y2) + (x1 * x2)])) rfl rfl ((addE hbp hzp).mono fun _ _ h => h.sq) hK'
    · obtain rfl := Option.some.inj ho
      exact hI.newQ hD hls (Nat.le_refl _) (newsQ_spec (l := [12]) (by kernel_rfl) ⟨⟨_, _, rfl⟩, trivial⟩) rfl rfl rfl 39 zE _ (run_allocQ rfl zE_run wn) rfl zE_ch hK'
  intro fuel an w6 hf hI
  obtain ⟨vr5_0, hvr5_0, rfl⟩ := hI.hq 0 _ 42 _ rfl rfl rfl rfl
  obtain ⟨vr5_1, hvr5_1, rfl⟩ := hI.hq 1 _ 43 _ rfl rfl rfl rfl
  obtain ⟨vr5_2, hvr5_2, rfl⟩ := hI.hq 2 _ 44 _ rfl rfl rfl rfl
  obtain ⟨vr5_3, hvr5_3, rfl⟩ := hI.hq 3 _ 45 _ rfl rfl rfl rfl
  obtain ⟨vr5_4, hvr5_4, ar5_4, rfl, hCr5_4⟩ := hI.hq 4 _ 46 _ rfl rfl rfl rfl
  obtain ⟨vr5_5, hvr5_5, rfl⟩ := hI.hq 5 _ 47 _ rfl rfl rfl rfl
  obtain ⟨vr5_6, hvr5_6, rfl⟩ := hI.hq 6 _ 48 _ rfl rfl rfl rfl
  obtain ⟨vr5_7, hvr5_7, rfl⟩ := hI.hq 7 _ 49 _ rfl rfl rfl rfl
  obtain ⟨vr5_8, hvr5_8, rfl⟩ := hI.hq 8 _ 50 _ rfl rfl rfl rfl
  obtain ⟨vr5_9, hvr5_9, ar5_9, rfl, hCr5_9⟩ := hI.hq 9 _ 51 _ rfl rfl rfl rfl
  obtain ⟨vr5_10, hvr5_10, br5_10, zr5_10, rfl, hnr5_10, hbr5_10, hzr5_10⟩ := hI.hq 10 _ 52 _ rfl rfl rfl rfl
  obtain ⟨vr5_11, hvr5_11, ar5_11, rfl, hCr5_11⟩ := hI.hq 11 _ 53 _ rfl rfl rfl rfl
  obtain ⟨vr5_12, hvr5_12, br5_12, zr5_12, rfl, hnr5_12, hbr5_12, hzr5_12⟩ := hI.hq 12 _ 10 _ rfl rfl rfl rfl
  have hupd := hI.upd
  have ha := hI.act [(42, .pointer (some ⟨br0_0, 0 + 5, none⟩)), (43, .agg (zr0_0.extract (0 + 5) (0 + 5 + 5))), (44, .pointer (some ⟨br0_1, 0 + 5, none⟩)), (45, .agg (zr0_1.extract (0 + 5) (0 + 5 + 5))), (46, .agg ar5_4), (47, .pointer (some ⟨br0_0, 0 + 0, none⟩)), (48, .agg (zr0_0.extract (0 + 0) (0 + 0 + 5))), (49, .pointer (some ⟨br0_1, 0 + 0, none⟩)), (50, .agg (zr0_1.extract (0 + 0) (0 + 0 + 5))), (51, .agg ar5_9), (52, .slice (some ⟨br5_10, 0, none⟩) 2 2), (53, .agg ar5_11), (10, ptrTo br5_12)] (by simp [hvr5_0, hvr5_1, hvr5_2, hvr5_3, hvr5_4, hvr5_5, hvr5_6, hvr5_7, hvr5_8, hvr5_9, hvr5_10, hvr5_11, hvr5_12]) (by kernel_rfl)
  clear hI hvr5_0 hvr5_1 hvr5_2 hvr5_3 hvr5_4 hvr5_5 hvr5_6 hvr5_7 hvr5_8 hvr5_9 hvr5_10 hvr5_11 hvr5_12
  subst ha
  simp only [List.foldl_cons, List.foldl_nil, List.setIfInBounds_toArray, List.set_cons_zero, List.set_cons_succ]
  have hner5_12_Bxr0y0_s4_0 := apartB Bxr0y0_s4_0 hnr5_12
  have hner5_12_Bxr0y1_s4_0 := apartB Bxr0y1_s4_0 hnr5_12
  have hner5_12_Bxr0y2_s4_0 := apartB Bxr0y2_s4_0 hnr5_12
  have hner5_12_Bxr1y5_s4_0 := apartB Bxr1y5_s4_0 hnr5_12
  have hner5_12_Bxr2y7_s4_0 := apartB Bxr2y7_s4_0 hnr5_12
  have hner5_12_Bxr3y7_s4_0 := apartB Bxr3y7_s4_0 hnr5_12
  have hner5_12_Bxr3y8_s4_0 := apartB Bxr3y8_s4_0 hnr5_12
  have hner5_12_Bxr4y12_s4_0 := apartB Bxr4y12_s4_0 hnr5_12
  have hger5_12 := geB HU4_0 hnr5_12
  have Bxr0y0_5 := hupd.keepD Bxr0y0_s4_0
  have Bxr0y1_5 := hupd.keepD Bxr0y1_s4_0
  have Bxr0y2_5 := hupd.keepD Bxr0y2_s4_0
  have Bxr1y5_5 := hupd.keepD Bxr1y5_s4_0
  have Bxr2y7_5 := hupd.keepD Bxr2y7_s4_0
  have Bxr3y7_5 := hupd.keepD Bxr3y7_s4_0
  have Bxr3y8_5 := hupd.keepD Bxr3y8_s4_0
  have Bxr4y12_5 := hupd.keepD Bxr4y12_s4_0
  have Bxr5y12 := hh hbr5_12
  have HU5 := hh (HU4_0.out.drew.trans hupd)
  clear hupd
  have hf0 : left #[true, true, true, true, true, true, true, true, true, true, true, true, true, false] 14 = 1 := by kernel_rfl
  have hf1 : left #[true, true, true, true, true, true, true, true, true, true, true, true, true, false] 14 ≤ fuel := hf
  obtain ⟨fu, rfl⟩ : ∃ fu, fuel = fu + 1 := ⟨fuel - 1, by omega⟩
  clear hf hf0 hf1
  refine wpAny_storeQ 13 rfl (by kernel_rfl) rfl rfl 39 (.tmp 10) (.tmp 53) rfl br5_12 0 5 rfl ar5_11 rfl 39 zr5_12 Bxr5y12.out szE hCr5_11.size (by rw [hzr5_12.size]; exact Nat.le_of_ble_eq_true rfl) hCr5_11.one' ?_
  intro ws5_0 hs5_0 hus5_0
  rw [splice_all _ _ 5 hzr5_12.size hCr5_11.size] at hs5_0
  have Bxr0y0_s5_0 := hus5_0.keepS Bxr0y0_5 (fun e => hner5_12_Bxr0y0_s4_0.out e.symm)
  have Bxr0y1_s5_0 := hus5_0.keepS Bxr0y1_5 (fun e => hner5_12_Bxr0y1_s4_0.out e.symm)
  have Bxr0y2_s5_0 := hus5_0.keepS Bxr0y2_5 (fun e => hner5_12_Bxr0y2_s4_0.out e.symm)
  have Bxr1y5_s5_0 := hus5_0.keepS Bxr1y5_5 (fun e => hner5_12_Bxr1y5_s4_0.out e.symm)
  have Bxr2y7_s5_0 := hus5_0.keepS Bxr2y7_5 (fun e => hner5_12_Bxr2y7_s4_0.out e.symm)
  have Bxr3y7_s5_0 := hus5_0.keepS Bxr3y7_5 (fun e => hner5_12_Bxr3y7_s4_0.out e.symm)
  have Bxr3y8_s5_0 := hus5_0.keepS Bxr3y8_5 (fun e => hner5_12_Bxr3y8_s4_0.out e.symm)
  have Bxr4y12_s5_0 := hus5_0.keepS Bxr4y12_5 (fun e => hner5_12_Bxr4y12_s4_0.out e.symm)
  have Bxr5y12_s5_0 := hh hs5_0
  have HU5_0 := hh (HU5.out.step hus5_0 (fun i hi h => absurd hi (Nat.not_lt.2 (h.symm ▸ hger5_12.out))))
  clear hs5_0 hus5_0
  refine wpAny_done (by kernel_rfl) ?_ _
  refine hK5 _ _ ?_
  clear hK5
  refine wp_seq_k fun K6 hK6 => ?_
  refine wp_region_qD #[true, true, true, true, true, true, true, true, true, true, true, true, true, false] ([.val (.agg ar4_11), .val (.agg ar3_6), .like (IsC 5 RE [((x1 * y2) + (x2 * y1)) * ((z1 * z2) - (dC * (t1 * t2)))]), .val (.agg ar5_11), .val (.agg ar3_3), .like (IsC 5 RE [((y1 * y2) + (x1 * x2)) * ((z1 * z2) + (dC * (t1 * t2)))]), .val (.agg ar3_3), .val (.agg ar3_6), .like (IsC 5 RE [((z1 * z2) + (dC * (t1 * t2))) * ((z1 * z2) - (dC * (t1 * t2)))]), .val (.agg ar4_11), .val (.agg ar5_11), .like (IsC 5 RE [((x1 * y2) + (x2 * y1)) * ((y1 * y2) + (x1 * x2))]), .like (IsC 5 RE [((x1 * y2) + (x2 * y1)) * ((z1 * z2) - (dC * (t1 * t2))), ((y1 * y2) + (x1 * x2)) * ((z1 * z2) + (dC * (t1 * t2))), ((z1 * z2) + (dC * (t1 * t2))) * ((z1 * z2) - (dC * (t1 * t2))), ((x1 * y2) + (x2 * y1)) * ((y1 * y2) + (x1 * x2))]), .val undef] : List SQ) (by kernel_rfl) (by kernel_rfl) (by kernel_rfl) (by kernel_rfl) ?_ ?_
  · intro i o listed an wn ho hls hst hun hdep hI hD K' hK'
    rcases slot_cases (l := [0, 1, 2, 3, 4, 5, 6, 7, 8, 9, 10, 11, 12]) rfl ho hst with rfl | rfl | rfl | rfl | rfl | rfl | rfl | rfl | rfl | rfl | rfl | rfl | rfl | ⟨⟨⟩⟩
    · obtain rfl := Option.some.inj ho
      have hvp : an.eval (.tmp 9) = ptrTo br4_12 := hI.oq (by kernel_rfl) rfl
      exact hI.pq hD hls rfl rfl rfl _ (run_loadQ rfl hvp wn (hI.upd.keepD Bxr4y12_s5_0).out Tryd.underlying39 rfl szE (by rw [hCr4_11.size]; exact Nat.le_of_ble_eq_true rfl)) (.val (.agg ar4_11)) rfl (congrArg Value.agg (extract_all _ 5 hCr4_11.size)) rfl hK'
    · obtain rfl := Option.some.inj ho
      have hvp : an.eval (.tmp 8) = ptrTo br3_8 := hI.oq (by kernel_rfl) rfl
      exact hI.pq hD hls rfl rfl rfl _ (run_loadQ rfl hvp wn (hI.upd.keepD Bxr3y8_s5_0).out Tryd.underlying39 rfl szE (by rw [hCr3_6.size]; exact Nat.le_of_ble_eq_true rfl)) (.val (.agg ar3_6)) rfl (congrArg Value.agg (extract_all _ 5 hCr3_6.size)) rfl hK'
    · obtain rfl := Option.some.inj ho
      obtain ⟨vp, hvp, rfl⟩ := hI.hq 0 _ 54 _ rfl rfl rfl (dp hdep 0 rfl rfl)
      obtain ⟨vq, hvq, rfl⟩ := hI.hq 1 _ 55 _ rfl rfl rfl (dp hdep 1 rfl rfl)
      exact hI.cq hD hls rfl rfl rfl 44 #[.tmp 54, .tmp 55] _ rfl #[.agg ar4_11, .agg ar3_6] (by simp [eval_of hvp, eval_of hvq]) (run_enter Tryd.func44 (by kernel_rfl) (by kernel_rfl)) (.like (IsC 5 RE [((x1 * y2) + (x2 * y1)) * ((z1 * z2) - (dC * (t1 * t2)))])) rfl rfl ((mulE hCr4_11 hCr3_6).mono fun _ _ h => h.sq) hK'
    · obtain rfl := Option.some.inj ho
      have hvp : an.eval (.tmp 10) = ptrTo br5_12 := hI.oq (by kernel_rfl) rfl
      exact hI.pq hD hls rfl rfl rfl _ (run_loadQ rfl hvp wn (hI.upd.keepD Bxr5y12_s5_0).out Tryd.underlying39 rfl szE (by rw [hCr5_11.size]; exact Nat.le_of_ble_eq_true rfl)) (.val (.agg ar5_11)) rfl (congrArg Value.agg (extract_all _ 5 hCr5_11.size)) rfl hK'
    · obtain rfl := Option.some.inj ho
      have hvp : an.eval (.tmp 7) = ptrTo br3_7 := hI.oq (by kernel_rfl) rfl
      exact hI.pq hD hls rfl rfl rfl _ (run_loadQ rfl hvp wn (hI.upd.keepD Bxr3y7_s5_0).out Tryd.underlying39 rfl szE (by rw [hCr3_3.size]; exact Nat.le_of_ble_eq_true rfl)) (.val (.agg ar3_3)) rfl (congrArg Value.agg (extract_all _ 5 hCr3_3.size)) rfl hK'
    · obtain rfl := Option.some.inj ho
      obtain ⟨vp, hvp, rfl⟩ := hI.hq 3 _ 57 _ rfl rfl rfl (dp hdep 0 rfl rfl)
      obtain ⟨vq, hvq, rfl⟩ := hI.hq 4 _ 58 _ rfl rfl rfl (dp hdep 1 rfl rfl)
      exact hI.cq hD hls rfl rfl rfl 44 #[.tmp 57, .tmp 58] _ rfl #[.agg ar5_11, .agg ar3_3] (by simp [eval_of hvp, eval_of hvq]) (run_enter Tryd.func44 (by kernel_rfl) (by kernel_rfl)) (.like (IsC 5 RE [((y1 * y2) + (x1 * x2)) * ((z1 * z2) + (dC * (t1 * t2)))])) rfl rfl ((mulE hCr5_11 hCr3_3).mono fun _ _ h => h.sq) hK'
    · obtain rfl := Option.some.inj ho
      have hvp : an.eval (.tmp 7) = ptrTo br3_7 := hI.oq (by kernel_rfl) rfl
      exact hI.pq hD hls rfl rfl rfl _ (run_loadQ rfl hvp wn (hI.upd.keepD Bxr3y7_s5_0).out Tryd.underlying39 rfl szE (by rw [hCr3_3.size]; exact Nat.le_of_ble_eq_true rfl)) (.val (.agg ar3_3)) rfl (congrArg Value.agg (extract_all _ 5 hCr3_3.size)) rfl hK'
    · obtain rfl := Option.some.inj ho
      have hvp : an.eval (.tmp 8) = ptrTo br3_8 := hI.oq (by kernel_rfl) rfl
      exact hI.pq hD hls rfl rfl rfl _ (run_loadQ rfl hvp wn (hI.upd.keepD Bxr3y8_s5_0).out Tryd.underlying39 rfl szE (by rw [hCr3_6.size]; exact Nat.le_of_ble_eq_true rfl)) (.val (.agg ar3_6)) rfl (congrArg Value.agg (extract_all _ 5 hCr3_6.size)) rfl hK'
    · obtain rfl := Option.some.inj ho
      obtain ⟨vp, hvp, rfl⟩ := hI.hq 6 _ 60 _ rfl rfl rfl (dp hdep 0 rfl rfl)
      obtain ⟨vq, hvq, rfl⟩ := hI.hq 7 _ 61 _ rfl rfl rfl (dp hdep 1 rfl rfl)
      exact hI.cq hD hls rfl rfl rfl 44 #[.tmp 60, .tmp 61] _ rfl #[.agg ar3_3, .agg ar3_6] (by simp [eval_of hvp, eval_of hvq]) (run_enter Tryd.func44 (by kernel_rfl) (by kernel_rfl)) (.like (IsC 5 RE [((z1 * z2) + (dC * (t1 * t2))) * ((z1 * z2) - (dC * (t1 * t2)))])) rfl rfl ((mulE hCr3_3 hCr3_6).mono fun _ _ h => h.sq) hK'
    · obtain rfl := Option.some.inj ho
      have hvp : an.eval (.tmp 9) = ptrTo br4_12 := hI.oq (by kernel_rfl) rfl
      exact hI.pq hD hls rfl rfl rfl _ (run_loadQ rfl hvp wn (hI.upd.keepD Bxr4y12_s5_0).out Tryd.underlying39 rfl szE (by rw [hCr4_11.size]; exact Nat.le_of_ble_eq_true rfl)) (.val (.agg ar4_11)) rfl (congrArg Value.agg (extract_all _ 5 hCr4_11.size)) rfl hK'
    · obtain rfl := Option.some.inj ho
      have hvp : an.eval (.tmp 10) = ptrTo br5_12 := hI.oq (by kernel_rfl) rfl
      exact hI.pq hD hls rfl rfl rfl _ (run_loadQ rfl hvp wn (hI.upd.keepD Bxr5y12_s5_0).out Tryd.underlying39 rfl szE (by rw [hCr5_11.size]; exact Nat.le_of_ble_eq_true rfl)) (.val (.agg ar5_11)) rfl (congrArg Value.agg (extract_all _ 5 hCr5_11.size)) rfl hK'
    · obtain rfl := Option.some.inj ho
      obtain ⟨vp, hvp, rfl⟩ := hI.hq 9 _ 63 _ rfl rfl rfl (dp hdep 0 rfl rfl)
      obtain ⟨vq, hvq, rfl⟩ := hI.hq 10 _ 64 _ rfl rfl rfl (dp hdep 1 rfl rfl)
      exact hI.cq hD hls rfl rfl rfl 44 #[.tmp 63, .tmp 64] _ rfl #[.agg ar4_11, .agg ar5_11] (by simp [eval_of hvp, eval_of hvq]) (run_enter Tryd.func44 (by kernel_rfl) (by kernel_rfl)) (.like (IsC 5 RE [((x1 * y2) + (x2 * y1)) * ((y1 * y2) + (x1 * x2))])) rfl rfl ((mulE hCr4_11 hCr5_11).mono fun _ _ h => h.sq) hK'
    · obtain rfl := Option.some.inj ho
      obtain ⟨vp, hvp, ap, rfl, hCp⟩ := hI.hq 2 _ 56 _ rfl rfl rfl (dp hdep 0 rfl rfl)
      obtain ⟨vq, hvq, aq, rfl, hCq⟩ := hI.hq 5 _ 59 _ rfl rfl rfl (dp hdep 1 rfl rfl)
      obtain ⟨vr, hvr, ar, rfl, hCr⟩ := hI.hq 8 _ 62 _ rfl rfl rfl (dp hdep 2 rfl rfl)
      obtain ⟨vu, hvu, au, rfl, hCu⟩ := hI.hq 11 _ 65 _ rfl rfl rfl (dp hdep 3 rfl rfl)
      exact hI.pq hD hls rfl rfl rfl _ (run_buildPt rfl (eval_of hvp) (eval_of hvq) (eval_of hvr) (eval_of hvu) hCp.size hCq.size hCr.size hCu.size wn) (.like (IsC 5 RE [((x1 * y2) + (x2 * y1)) * ((z1 * z2) - (dC * (t1 * t2))), ((y1 * y2) + (x1 * x2)) * ((z1 * z2) + (dC * (t1 * t2))), ((z1 * z2) + (dC * (t1 * t2))) * ((z1 * z2) - (dC * (t1 * t2))), ((x1 * y2) + (x2 * y1)) * ((y1 * y2) + (x1 * x2))])) rfl ⟨_, rfl, (((hCp.cat hCq).cat hCr).cat hCu)⟩ rfl hK'
  intro fuel an w7 hf hI
  obtain ⟨vr6_0, hvr6_0, rfl⟩ := hI.hq 0 _ 54 _ rfl rfl rfl rfl
  obtain ⟨vr6_1, hvr6_1, rfl⟩ := hI.hq 1 _ 55 _ rfl rfl rfl rfl
  obtain ⟨vr6_2, hvr6_2, ar6_2, rfl, hCr6_2⟩ := hI.hq 2 _ 56 _ rfl rfl rfl rfl
  obtain ⟨vr6_3, hvr6_3, rfl⟩ := hI.hq 3 _ 57 _ rfl rfl rfl rfl
  obtain ⟨vr6_4, hvr6_4, rfl⟩ := hI.hq 4 _ 58 _ rfl rfl rfl rfl
  obtain ⟨vr6_5, hvr6_5, ar6_5, rfl, hCr6_5⟩ := hI.hq 5 _ 59 _ rfl rfl rfl rfl
  obtain ⟨vr6_6, hvr6_6, rfl⟩ := hI.hq 6 _ 60 _ rfl rfl rfl rfl
  obtain ⟨vr6_7, hvr6_7, rfl⟩ := hI.hq 7 _ 61 _ rfl rfl rfl rfl
  obtain ⟨vr6_8, hvr6_8, ar6_8, rfl, hCr6_8⟩ := hI.hq 8 _ 62 _ rfl rfl rfl rfl
  obtain ⟨vr6_9, hvr6_9, rfl⟩ := hI.hq 9 _ 63 _ rfl rfl rfl rfl
  obtain ⟨vr6_10, hvr6_10, rfl⟩ := hI.hq 10 _ 64 _ rfl rfl rfl rfl
  obtain ⟨vr6_11, hvr6_11, ar6_11, rfl, hCr6_11⟩ := hI.hq 11 _ 65 _ rfl rfl rfl rfl
  obtain ⟨vr6_12, hvr6_12, ar6_12, rfl, hCr6_12⟩ := hI.hq 12 _ 66 _ rfl rfl rfl rfl
  have hupd := hI.upd
  have ha := hI.act [(54, .agg ar4_11), (55, .agg ar3_6), (56, .agg ar6_2), (57, .agg ar5_11), (58, .agg ar3_3), (59, .agg ar6_5), (60, .agg ar3_3), (61, .agg ar3_6), (62, .agg ar6_8), (63, .agg ar4_11), (64, .agg ar5_11), (65, .agg ar6_11), (66, .agg ar6_12)] (by simp [hvr6_0, hvr6_1, hvr6_2, hvr6_3, hvr6_4, hvr6_5, hvr6_6, hvr6_7, hvr6_8, hvr6_9, hvr6_10, hvr6_11, hvr6_12]) (by kernel_rfl)
  clear hI hvr6_0 hvr6_1 hvr6_2 hvr6_3 hvr6_4 hvr6_5 hvr6_6 hvr6_7 hvr6_8 hvr6_9 hvr6_10 hvr6_11 hvr6_12
  subst ha
  simp only [List.foldl_cons, List.foldl_nil, List.setIfInBounds_toArray, List.set_cons_zero, List.set_cons_succ]
  have Bxr0y0_6 := hupd.keepD Bxr0y0_s5_0
  have Bxr0y1_6 := hupd.keepD Bxr0y1_s5_0
  have Bxr0y2_6 := hupd.keepD Bxr0y2_s5_0
  have Bxr1y5_6 := hupd.keepD Bxr1y5_s5_0
  have Bxr2y7_6 := hupd.keepD Bxr2y7_s5_0
  have Bxr3y7_6 := hupd.keepD Bxr3y7_s5_0
  have Bxr3y8_6 := hupd.keepD Bxr3y8_s5_0
  have Bxr4y12_6 := hupd.keepD Bxr4y12_s5_0
  have Bxr5y12_6 := hupd.keepD Bxr5y12_s5_0
  have HU6 := hh (HU5_0.out.drew.trans hupd)
  clear hupd
  have hf0 : left #[true, true, true, true, true, true, true, true, true, true, true, true, true, false] 14 = 1 := by kernel_rfl
  have hf1 : left #[true, true, true, true, true, true, true, true, true, true, true, true, true, false] 14 ≤ fuel := hf
  obtain ⟨fu, rfl⟩ : ∃ fu, fuel = fu + 1 := ⟨fuel - 1, by omega⟩
  clear hf hf0 hf1
  refine wpAny_storeQ 13 rfl (by kernel_rfl) rfl rfl 41 (.tmp 4) (.tmp 66) rfl br0_2 0 20 rfl ar6_12 rfl 41 zr0_2 Bxr0y2_6.out szPt hCr6_12.size (by rw [hzr0_2.size]; exact Nat.le_of_ble_eq_true rfl) hCr6_12.one' ?_
  intro ws6_0 hs6_0 hus6_0
  rw [splice_all _ _ 20 hzr0_2.size hCr6_12.size] at hs6_0
  have Bxr0y0_s6_0 := hus6_0.keepS Bxr0y0_6 (fun e => hner0_0_r0_2.out e)
  have Bxr0y1_s6_0 := hus6_0.keepS Bxr0y1_6 (fun e => hner0_1_r0_2.out e)
  have Bxr1y5_s6_0 := hus6_0.keepS Bxr1y5_6 (fun e => hner1_5_Bxr0y2.out e)
  have Bxr2y7_s6_0 := hus6_0.keepS Bxr2y7_6 (fun e => hner2_7_Bxr0y2_s1_0.out e)
  have Bxr3y7_s6_0 := hus6_0.keepS Bxr3y7_6 (fun e => hner3_7_Bxr0y2_s2_0.out e)
  have Bxr3y8_s6_0 := hus6_0.keepS Bxr3y8_6 (fun e => hner3_8_Bxr0y2_s2_0.out e)
  have Bxr4y12_s6_0 := hus6_0.keepS Bxr4y12_6 (fun e => hner4_12_Bxr0y2_s3_1.out e)
  have Bxr5y12_s6_0 := hus6_0.keepS Bxr5y12_6 (fun e => hner5_12_Bxr0y2_s4_0.out e)
  have Bxr0y2_s6_0 := hh hs6_0
  have HU6_0 := hh (HU6.out.step hus6_0 (fun i hi h => absurd hi (Nat.not_lt.2 (h.symm ▸ hger0_2.out))))
  clear hs6_0 hus6_0
  refine wpAny_done (by kernel_rfl) ?_ _
  refine hK6 _ _ ?_
  clear hK6
  refine wp_ret ?_
  try dsimp only [Exit.then]
  try dsimp only [Exit.inBlock]
  exact bodyPost_ret (v := .agg ar6_12) (results_cell_row (fn := Tryd.f70) (p := 4) (ty := 41) rfl _ _ br0_2 41 _ (0, 0) _ rfl Bxr0y2_s6_0.out Tryd.underlying41 rfl (by rw [hCr6_12.size]; exact szPt)) rfl ⟨_, rfl, hCr6_12, HU6_0.out⟩
set_option maxHeartbeats 4000000 in
theorem negP {x1 y1 z1 t1 : Fp} {a : Array Value} (w : World) (hT : Tw w) (ha : Ch 5 RE [x1, y1, z1, t1] a) :
    Calls Tryd.prog 32 #[.agg a] w (RetC 5 RE [-x1, y1, z1, -t1] w) := by
  have HT := hh hT
  clear hT
  have HU := hh (Upd.refl (fun _ => False) w)
  go_enter Tryd.func32, Tryd.ntmps32
  refine wp_seq_k fun K0 hK0 => ?_
  refine wp_region_qSD 2 #[true, true] [] ([.blk ptrTo 41 (Ch 5 RE [x1, y1, z1, t1]), .blk ptrTo 41 (Ch 5 RE [0, 0, 0, 0])] : List SQ) (by kernel_rfl) (by kernel_rfl) (by kernel_rfl) (by kernel_rfl) ?_ ?_
  · intro i o listed an wn ho hls hst hun hdep hI hD hpre K' hK'
    rcases slot_cases (l := [0, 1]) rfl ho hst with rfl | rfl | ⟨⟨⟩⟩
    · obtain rfl := Option.some.inj ho
      have hvp : an.eval (.tmp 0) = .agg a := hI.oq (by kernel_rfl) rfl
      exact hI.newQ hD hls (Nat.le_refl _) (newsQ_spec (l := [0, 1]) (by kernel_rfl) ⟨⟨_, _, rfl⟩, ⟨_, _, rfl⟩, trivial⟩) rfl rfl rfl 41 a _ (run_boxQ rfl hvp wn) rfl ha hK'
    · obtain rfl := Option.some.inj ho
      exact hI.newQ hD hls (Nat.le_refl _) (newsQ_spec (l := [0, 1]) (by kernel_rfl) ⟨⟨_, _, rfl⟩, ⟨_, _, rfl⟩, trivial⟩) rfl rfl rfl 41 zPt _ (run_allocQ rfl zPt_run wn) rfl zPt_ch hK'
  intro an w1 hI
  obtain ⟨vr0_0, hvr0_0, br0_0, zr0_0, rfl, hnr0_0, hbr0_0, hzr0_0⟩ := hI.hq 0 _ 1 _ rfl rfl rfl rfl
  obtain ⟨vr0_1, hvr0_1, br0_1, zr0_1, rfl, hnr0_1, hbr0_1, hzr0_1⟩ := hI.hq 1 _ 2 _ rfl rfl rfl rfl
  have hupd := hI.upd
  have hner0_0_r0_1 := hh (show br0_0 ≠ br0_1 from fun e => hI.apart 0 1 _ _ 1 2 (by omega) rfl rfl rfl rfl rfl rfl rfl rfl (by rw [hvr0_0, hvr0_1, e]))
  have ha := hI.act [(1, ptrTo br0_0), (2, ptrTo br0_1)] (by simp [hvr0_0, hvr0_1]) (by kernel_rfl)
  clear hI hvr0_0 hvr0_1
  subst ha
  simp only [List.foldl_cons, List.foldl_nil, List.setIfInBounds_toArray, List.set_cons_zero, List.set_cons_succ]
  have hger0_0 := geB HU hnr0_0
  have hger0_1 := geB HU hnr0_1
  have Bxr0y0 := hh hbr0_0
  have Bxr0y1 := hh hbr0_1
  have HU0 := hh (HU.out.trans hupd)
  clear hupd
  refine wpOps_nil ?_
  refine hK0 _ _ ?_
  clear hK0
  refine wp_seq_k fun K1 hK1 => ?_
  refine wp_region_qD #[true, true, true, true, true, true, true, true, true, true, true, false] ([.val (.pointer (some ⟨br0_0, 0 + 0, none⟩)), .val (.agg (zr0_0.extract (0 + 0) (0 + 0 + 5))), .like (IsC 5 RE [-x1]), .val (.pointer (some ⟨br0_0, 0 + 5, none⟩)), .val (.agg (zr0_0.extract (0 + 5) (0 + 5 + 5))), .val (.pointer (some ⟨br0_0, 0 + 10, none⟩)), .val (.agg (zr0_0.extract (0 + 10) (0 + 10 + 5))), .val (.pointer (some ⟨br0_0, 0 + 15, none⟩)), .val (.agg (zr0_0.extract (0 + 15) (0 + 15 + 5))), .like (IsC 5 RE [-t1]), .like (IsC 5 RE [-x1, y1, z1, -t1]), .val undef] : List SQ) (by kernel_rfl) (by kernel_rfl) (by kernel_rfl) (by kernel_rfl) ?_ ?_
  · intro i o listed an wn ho hls hst hun hdep hI hD K' hK'
    rcases slot_cases (l := [0, 1, 2, 3, 4, 5, 6, 7, 8, 9, 10]) rfl ho hst with rfl | rfl | rfl | rfl | rfl | rfl | rfl | rfl | rfl | rfl | rfl | ⟨⟨⟩⟩
    · obtain rfl := Option.some.inj ho
      have hvp : an.eval (.tmp 1) = ptrTo br0_0 := hI.oq (by kernel_rfl) rfl
      exact hI.pq hD hls rfl rfl rfl _ (run_fieldQ (g := br0_0) (off := 0) (k := 0) rfl hvp Tryd.underlying41 rfl (by rfl) szE wn) (.val (.pointer (some ⟨br0_0, 0 + 0, none⟩))) rfl rfl rfl hK'
    · obtain rfl := Option.some.inj ho
      obtain ⟨vp, hvp, rfl⟩ := hI.hq 0 _ 3 _ rfl rfl rfl (dp hdep 0 rfl rfl)
      exact hI.pq hD hls rfl rfl rfl _ (run_loadQ rfl (eval_of hvp) wn (hI.upd.keepD Bxr0y0).out Tryd.underlying39 rfl szE (by rw [hzr0_0.size]; exact Nat.le_of_ble_eq_true rfl)) (.val (.agg (zr0_0.extract (0 + 0) (0 + 0 + 5)))) rfl rfl rfl hK'
    · obtain rfl := Option.some.inj ho
      obtain ⟨vp, hvp, rfl⟩ := hI.hq 1 _ 4 _ rfl rfl rfl (dp hdep 0 rfl rfl)
      exact hI.cq hD hls rfl rfl rfl 63 #[.tmp 4] _ rfl #[.agg (zr0_0.extract (0 + 0) (0 + 0 + 5))] (by simp [eval_of hvp]) (run_enter Tryd.func63 (by kernel_rfl) (by kernel_rfl)) (.like (IsC 5 RE [-x1])) rfl rfl ((negE (HT.out.upd (HU0.out.drew.trans hI.upd)) (hzr0_0.at 0 (0 + 0) rfl rfl)).mono fun _ _ h => h.sq) hK'
    · obtain rfl := Option.some.inj ho
      have hvp : an.eval (.tmp 1) = ptrTo br0_0 := hI.oq (by kernel_rfl) rfl
      exact hI.pq hD hls rfl rfl rfl _ (run_fieldQ (g := br0_0) (off := 0) (k := 5) rfl hvp Tryd.underlying41 rfl (by rfl) szE wn) (.val (.pointer (some ⟨br0_0, 0 + 5, none⟩))) rfl rfl rfl hK'
    · obtain rfl := Option.some.inj ho
      obtain ⟨vp, hvp, rfl⟩ := hI.hq 3 _ 6 _ rfl rfl rfl (dp hdep 0 rfl rfl)
      exact hI.pq hD hls rfl rfl rfl _ (run_loadQ rfl (eval_of hvp) wn (hI.upd.keepD Bxr0y0).out Tryd.underlying39 rfl szE (by rw [hzr0_0.size]; exact Nat.le_of_ble_eq_true rfl)) (.val (.agg (zr0_0.extract (0 + 5) (0 + 5 + 5)))) rfl rfl rfl hK'
    · obtain rfl := Option.some.inj ho
      have hvp : an.eval (.tmp 1) = ptrTo br0_0 := hI.oq (by kernel_rfl) rfl
      exact hI.pq hD hls rfl rfl rfl _ (run_fieldQ (g := br0_0) (off := 0) (k := 10) rfl hvp Tryd.underlying41 rfl (by rfl) szE wn) (.val (.pointer (some ⟨br0_0, 0 + 10, none⟩))) rfl rfl rfl hK'
    · obtain rfl := Option.some.inj ho
      obtain ⟨vp, hvp, rfl⟩ := hI.hq 5 _ 8 _ rfl rfl rfl (dp hdep 0 rfl rfl)
      exact hI.pq hD hls rfl rfl rfl _ (run_loadQ rfl (eval_of hvp) wn (hI.upd.keepD Bxr0y0).out Tryd.underlying39 rfl szE (by rw [hzr0_0.size]; exact Nat.le_of_ble_eq_true rfl)) (.val (.agg (zr0_0.extract (0 + 10) (0 + 10 + 5)))) rfl rfl rfl hK'
    · obtain rfl := Option.some.inj ho
      have hvp : an.eval (.tmp 1) = ptrTo br0_0 := hI.oq (by kernel_rfl) rfl
      exact hI.pq hD hls rfl rfl rfl _ (run_fieldQ (g := br0_0) (off := 0) (k := 15) rfl hvp Tryd.underlying41 rfl (by rfl) szE wn) (.val (.pointer (some ⟨br0_0, 0 + 15, none⟩))) rfl rfl rfl hK'
    · obtain rfl := Option.some.inj ho
      obtain ⟨vp, hvp, rfl⟩ := hI.hq 7 _ 10 _ rfl rfl rfl (dp hdep 0 rfl rfl)
      exact hI.pq hD hls rfl rfl rfl _ (run_loadQ rfl (eval_of hvp) wn (hI.upd.keepD Bxr0y0).out Tryd.underlying39 rfl szE (by rw [hzr0_0.size]; exact Nat.le_of_ble_eq_true rfl)) (.val (.agg (zr0_0.extract (0 + 15) (0 + 15 + 5)))) rfl rfl rfl hK'
    · obtain rfl := Option.some.inj ho
      obtain ⟨vp, hvp, rfl⟩ := hI.hq 8 _ 11 _ rfl rfl rfl (dp hdep 0 rfl rfl)
      exact hI.cq hD hls rfl rfl rfl 63 #[.tmp 11] _ rfl #[.agg (zr0_0.extract (0 + 15) (0 + 15 + 5))] (by simp [eval_of hvp]) (run_enter Tryd.func63 (by kernel_rfl) (by kernel_rfl)) (.like (IsC 5 RE [-t1])) rfl rfl ((negE (HT.out.upd (HU0.out.drew.trans hI.upd)) (hzr0_0.at 3 (0 + 15) rfl rfl)).mono fun _ _ h => h.sq) hK'
    · obtain rfl := Option.some.inj ho
      obtain ⟨vp, hvp, ap, rfl, hCp⟩ := hI.hq 2 _ 5 _ rfl rfl rfl (dp hdep 0 rfl rfl)
      obtain ⟨vq, hvq, rfl⟩ := hI.hq 4 _ 7 _ rfl rfl rfl (dp hdep 1 rfl rfl)
      obtain ⟨vr, hvr, rfl⟩ := hI.hq 6 _ 9 _ rfl rfl rfl (dp hdep 2 rfl rfl)
      obtain ⟨vu, hvu, au, rfl, hCu⟩ := hI.hq 9 _ 12 _ rfl rfl rfl (dp hdep 3 rfl rfl)
      exact hI.pq hD hls rfl rfl rfl _ (run_buildPt rfl (eval_of hvp) (eval_of hvq) (eval_of hvr) (eval_of hvu) hCp.size (hzr0_0.at 1 (0 + 5) rfl rfl).size (hzr0_0.at 2 (0 + 10) rfl rfl).size hCu.size wn) (.like (IsC 5 RE [-x1, y1, z1, -t1])) rfl ⟨_, rfl, (((hCp.cat (hzr0_0.at 1 (0 + 5) rfl rfl)).cat (hzr0_0.at 2 (0 + 10) rfl rfl)).cat hCu)⟩ rfl hK'
  intro fuel an w2 hf hI
  obtain ⟨vr1_0, hvr1_0, rfl⟩ := hI.hq 0 _ 3 _ rfl rfl rfl rfl
  obtain ⟨vr1_1, hvr1_1, rfl⟩ := hI.hq 1 _ 4 _ rfl rfl rfl rfl
  obtain ⟨vr1_2, hvr1_2, ar1_2, rfl, hCr1_2⟩ := hI.hq 2 _ 5 _ rfl rfl rfl rfl
  obtain ⟨vr1_3, hvr1_3, rfl⟩ := hI.hq 3 _ 6 _ rfl rfl rfl rfl
  obtain ⟨vr1_4, hvr1_4, rfl⟩ := hI.hq 4 _ 7 _ rfl rfl rfl rfl
  obtain ⟨vr1_5, hvr1_5, rfl⟩ := hI.hq 5 _ 8 _ rfl rfl rfl rfl
  obtain ⟨vr1_6, hvr1_6, rfl⟩ := hI.hq 6 _ 9 _ rfl rfl rfl rfl
  obtain ⟨vr1_7, hvr1_7, rfl⟩ := hI.hq 7 _ 10 _ rfl rfl rfl rfl
  obtain ⟨vr1_8, hvr1_8, rfl⟩ := hI.hq 8 _ 11 _ rfl rfl rfl rfl
  obtain ⟨vr1_9, hvr1_9, ar1_9, rfl, hCr1_9⟩ := hI.hq 9 _ 12 _ rfl rfl rfl rfl
  obtain ⟨vr1_10, hvr1_10, ar1_10, rfl, hCr1_10⟩ := hI.hq 10 _ 13 _ rfl rfl rfl rfl
  have hupd := hI.upd
  have ha := hI.act [(3, .pointer (some ⟨br0_0, 0 + 0, none⟩)), (4, .agg (zr0_0.extract (0 + 0) (0 + 0 + 5))), (5, .agg ar1_2), (6, .pointer (some ⟨br0_0, 0 + 5, none⟩)), (7, .agg (zr0_0.extract (0 + 5) (0 + 5 + 5))), (8, .pointer (some ⟨br0_0, 0 + 10, none⟩)), (9, .agg (zr0_0.extract (0 + 10) (0 + 10 + 5))), (10, .pointer (some ⟨br0_0, 0 + 15, none⟩)), (11, .agg (zr0_0.extract (0 + 15) (0 + 15 + 5))), (12, .agg ar1_9), (13, .agg ar1_10)] (by simp [hvr1_0, hvr1_1, hvr1_2, hvr1_3, hvr1_4, hvr1_5, hvr1_6, hvr1_7, hvr1_8, hvr1_9, hvr1_10]) (by kernel_rfl)
  clear hI hvr1_0 hvr1_1 hvr1_2 hvr1_3 hvr1_4 hvr1_5 hvr1_6 hvr1_7 hvr1_8 hvr1_9 hvr1_10
  subst ha
  simp only [List.foldl_cons, List.foldl_nil, List.setIfInBounds_toArray, List.set_cons_zero, List.set_cons_succ]
  have Bxr0y0_1 := hupd.keepD Bxr0y0
  have Bxr0y1_1 := hupd.keepD Bxr0y1
  have HU1 := hh (HU0.out.drew.trans hupd)
  clear hupd
  have hf0 : left #[true, true, true, true, true, true, true, true, true, true, true, false] 12 = 1 := by kernel_rfl
  have hf1 : left #[true, true, true, true, true, true, true, true, true, true, true, false] 12 ≤ fuel := hf
  obtain ⟨fu, rfl⟩ : ∃ fu, fuel = fu + 1 := ⟨fuel - 1, by omega⟩
  clear hf hf0 hf1
  refine wpAny_storeQ 11 rfl (by kernel_rfl) rfl rfl 41 (.tmp 2) (.tmp 13) rfl br0_1 0 20 rfl ar1_10 rfl 41 zr0_1 Bxr0y1_1.out szPt hCr1_10.size (by rw [hzr0_1.size]; exact Nat.le_of_ble_eq_true rfl) hCr1_10.one' ?_
  intro ws1_0 hs1_0 hus1_0
  rw [splice_all _ _ 20 hzr0_1.size hCr1_10.size] at hs1_0
  have Bxr0y0_s1_0 := hus1_0.keepS Bxr0y0_1 (fun e => hner0_0_r0_1.out e)
  have Bxr0y1_s1_0 := hh hs1_0
  have HU1_0 := hh (HU1.out.step hus1_0 (fun i hi h => absurd hi (Nat.not_lt.2 (h.symm ▸ hger0_1.out))))
  clear hs1_0 hus1_0
  refine wpAny_done (by kernel_rfl) ?_ _
  refine hK1 _ _ ?_
  clear hK1
  refine wp_ret ?_
  try dsimp only [Exit.then]
  try dsimp only [Exit.inBlock]
  exact bodyPost_ret (v := .agg ar1_10) (results_cell_row (fn := Tryd.f32) (p := 2) (ty := 41) rfl _ _ br0_1 41 _ (0, 0) _ rfl Bxr0y1_s1_0.out Tryd.underlying41 rfl (by rw [hCr1_10.size]; exact szPt)) rfl ⟨_, rfl, hCr1_10, HU1_0.out⟩
end Go.Proofs.YtdpafemcpbhlfaaDoor
