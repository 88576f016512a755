/-
  Walks of point: Base, Equal, Encode, evenX.
-/
import Derived.Test.YtdpafemcpbhlfaaDoorPtBase
import Derived.Test.YtdpafemcpbhlfaaDoorHf
namespace Go.Proofs.YtdpafemcpbhlfaaDoor
set_option maxRecDepth 100000
open Go.RowKit

def keyB0 : List Int := [26, 213, 37, 143, 96, 45, 86, 201, 178, 167, 37, 149, 96, 199, 44, 105, 92, 220, 214, 253, 49, 226, 164, 192, 254, 83, 110, 205, 211, 54, 105, 33]
theorem keyB0_length : keyB0.length = 32 := rfl
theorem keyB0_digs : Digs 256 keyB0 := digs_of_all (by decide)
theorem keyB0_run {o : Oper} {a : Act} (ho : o.op = .build 23 #[(0, .const (.int .u8 26)), (1, .const (.int .u8 213)), (2, .const (.int .u8 37)), (3, .const (.int .u8 143)), (4, .const (.int .u8 96)), (5, .const (.int .u8 45)), (6, .const (.int .u8 86)), (7, .const (.int .u8 201)), (8, .const (.int .u8 178)), (9, .const (.int .u8 167)), (10, .const (.int .u8 37)), (11, .const (.int .u8 149)), (12, .const (.int .u8 96)), (13, .const (.int .u8 199)), (14, .const (.int .u8 44)), (15, .const (.int .u8 105)), (16, .const (.int .u8 92)), (17, .const (.int .u8 220)), (18, .const (.int .u8 214)), (19, .const (.int .u8 253)), (20, .const (.int .u8 49)), (21, .const (.int .u8 226)), (22, .const (.int .u8 164)), (23, .const (.int .u8 192)), (24, .const (.int .u8 254)), (25, .const (.int .u8 83)), (26, .const (.int .u8 110)), (27, .const (.int .u8 205)), (28, .const (.int .u8 211)), (29, .const (.int .u8 54)), (30, .const (.int .u8 105)), (31, .const (.int .u8 33))]) (w : World) : (execOp a.eval o).run Tryd.prog w = .ok (.value (.agg (numsA .u8 keyB0))) w := by
  have hb : (Instr.build 23 #[(0, .int .u8 26), (1, .int .u8 213), (2, .int .u8 37), (3, .int .u8 143), (4, .int .u8 96), (5, .int .u8 45), (6, .int .u8 86), (7, .int .u8 201), (8, .int .u8 178), (9, .int .u8 167), (10, .int .u8 37), (11, .int .u8 149), (12, .int .u8 96), (13, .int .u8 199), (14, .int .u8 44), (15, .int .u8 105), (16, .int .u8 92), (17, .int .u8 220), (18, .int .u8 214), (19, .int .u8 253), (20, .int .u8 49), (21, .int .u8 226), (22, .int .u8 164), (23, .int .u8 192), (24, .int .u8 254), (25, .int .u8 83), (26, .int .u8 110), (27, .int .u8 205), (28, .int .u8 211), (29, .int .u8 54), (30, .int .u8 105), (31, .int .u8 33)]).run Tryd.prog w = .ok (.agg (numsA .u8 keyB0)) w := by kernel_rfl
  have hm : (#[(0, .const (.int .u8 26)), (1, .const (.int .u8 213)), (2, .const (.int .u8 37)), (3, .const (.int .u8 143)), (4, .const (.int .u8 96)), (5, .const (.int .u8 45)), (6, .const (.int .u8 86)), (7, .const (.int .u8 201)), (8, .const (.int .u8 178)), (9, .const (.int .u8 167)), (10, .const (.int .u8 37)), (11, .const (.int .u8 149)), (12, .const (.int .u8 96)), (13, .const (.int .u8 199)), (14, .const (.int .u8 44)), (15, .const (.int .u8 105)), (16, .const (.int .u8 92)), (17, .const (.int .u8 220)), (18, .const (.int .u8 214)), (19, .const (.int .u8 253)), (20, .const (.int .u8 49)), (21, .const (.int .u8 226)), (22, .const (.int .u8 164)), (23, .const (.int .u8 192)), (24, .const (.int .u8 254)), (25, .const (.int .u8 83)), (26, .const (.int .u8 110)), (27, .const (.int .u8 205)), (28, .const (.int .u8 211)), (29, .const (.int .u8 54)), (30, .const (.int .u8 105)), (31, .const (.int .u8 33))] : Array (Nat × Operand)).map (fun (i, x) => (i, a.eval x)) = #[(0, .int .u8 26), (1, .int .u8 213), (2, .int .u8 37), (3, .int .u8 143), (4, .int .u8 96), (5, .int .u8 45), (6, .int .u8 86), (7, .int .u8 201), (8, .int .u8 178), (9, .int .u8 167), (10, .int .u8 37), (11, .int .u8 149), (12, .int .u8 96), (13, .int .u8 199), (14, .int .u8 44), (15, .int .u8 105), (16, .int .u8 92), (17, .int .u8 220), (18, .int .u8 214), (19, .int .u8 253), (20, .int .u8 49), (21, .int .u8 226), (22, .int .u8 164), (23, .int .u8 192), (24, .int .u8 254), (25, .int .u8 83), (26, .int .u8 110), (27, .int .u8 205), (28, .int .u8 211), (29, .int .u8 54), (30, .int .u8 105), (31, .int .u8 33)] := by simp [Act.eval]
  unfold execOp
  simp only [ho]
  rw [hm, Sem.run_bind, hb]
  rfl
def keyB1 : List Int := [88, 102, 102, 102, 102, 102, 102, 102, 102, 102, 102, 102, 102, 102, 102, 102, 102, 102, 102, 102, 102, 102, 102, 102, 102, 102, 102, 102, 102, 102, 102, 102]
theorem keyB1_length : keyB1.length = 32 := rfl
theorem keyB1_digs : Digs 256 keyB1 := digs_of_all (by decide)
theorem keyB1_run {o : Oper} {a : Act} (ho : o.op = .build 23 #[(0, .const (.int .u8 88)), (1, .const (.int .u8 102)), (2, .const (.int .u8 102)), (3, .const (.int .u8 102)), (4, .const (.int .u8 102)), (5, .const (.int .u8 102)), (6, .const (.int .u8 102)), (7, .const (.int .u8 102)), (8, .const (.int .u8 102)), (9, .const (.int .u8 102)), (10, .const (.int .u8 102)), (11, .const (.int .u8 102)), (12, .const (.int .u8 102)), (13, .const (.int .u8 102)), (14, .const (.int .u8 102)), (15, .const (.int .u8 102)), (16, .const (.int .u8 102)), (17, .const (.int .u8 102)), (18, .const (.int .u8 102)), (19, .const (.int .u8 102)), (20, .const (.int .u8 102)), (21, .const (.int .u8 102)), (22, .const (.int .u8 102)), (23, .const (.int .u8 102)), (24, .const (.int .u8 102)), (25, .const (.int .u8 102)), (26, .const (.int .u8 102)), (27, .const (.int .u8 102)), (28, .const (.int .u8 102)), (29, .const (.int .u8 102)), (30, .const (.int .u8 102)), (31, .const (.int .u8 102))]) (w : World) : (execOp a.eval o).run Tryd.prog w = .ok (.value (.agg (numsA .u8 keyB1))) w := by
  have hb : (Instr.build 23 #[(0, .int .u8 88), (1, .int .u8 102), (2, .int .u8 102), (3, .int .u8 102), (4, .int .u8 102), (5, .int .u8 102), (6, .int .u8 102), (7, .int .u8 102), (8, .int .u8 102), (9, .int .u8 102), (10, .int .u8 102), (11, .int .u8 102), (12, .int .u8 102), (13, .int .u8 102), (14, .int .u8 102), (15, .int .u8 102), (16, .int .u8 102), (17, .int .u8 102), (18, .int .u8 102), (19, .int .u8 102), (20, .int .u8 102), (21, .int .u8 102), (22, .int .u8 102), (23, .int .u8 102), (24, .int .u8 102), (25, .int .u8 102), (26, .int .u8 102), (27, .int .u8 102), (28, .int .u8 102), (29, .int .u8 102), (30, .int .u8 102), (31, .int .u8 102)]).run Tryd.prog w = .ok (.agg (numsA .u8 keyB1)) w := by kernel_rfl
  have hm : (#[(0, .const (.int .u8 88)), (1, .const (.int .u8 102)), (2, .const (.int .u8 102)), (3, .const (.int .u8 102)), (4, .const (.int .u8 102)), (5, .const (.int .u8 102)), (6, .const (.int .u8 102)), (7, .const (.int .u8 102)), (8, .const (.int .u8 102)), (9, .const (.int .u8 102)), (10, .const (.int .u8 102)), (11, .const (.int .u8 102)), (12, .const (.int .u8 102)), (13, .const (.int .u8 102)), (14, .const (.int .u8 102)), (15, .const (.int .u8 102)), (16, .const (.int .u8 102)), (17, .const (.int .u8 102)), (18, .const (.int .u8 102)), (19, .const (.int .u8 102)), (20, .const (.int .u8 102)), (21, .const (.int .u8 102)), (22, .const (.int .u8 102)), (23, .const (.int .u8 102)), (24, .const (.int .u8 102)), (25, .const (.int .u8 102)), (26, .const (.int .u8 102)), (27, .const (.int .u8 102)), (28, .const (.int .u8 102)), (29, .const (.int .u8 102)), (30, .const (.int .u8 102)), (31, .const (.int .u8 102))] : Array (Nat × Operand)).map (fun (i, x) => (i, a.eval x)) = #[(0, .int .u8 88), (1, .int .u8 102), (2, .int .u8 102), (3, .int .u8 102), (4, .int .u8 102), (5, .int .u8 102), (6, .int .u8 102), (7, .int .u8 102), (8, .int .u8 102), (9, .int .u8 102), (10, .int .u8 102), (11, .int .u8 102), (12, .int .u8 102), (13, .int .u8 102), (14, .int .u8 102), (15, .int .u8 102), (16, .int .u8 102), (17, .int .u8 102), (18, .int .u8 102), (19, .int .u8 102), (20, .int .u8 102), (21, .int .u8 102), (22, .int .u8 102), (23, .int .u8 102), (24, .int .u8 102), (25, .int .u8 102), (26, .int .u8 102), (27, .int .u8 102), (28, .int .u8 102), (29, .int .u8 102), (30, .int .u8 102), (31, .int .u8 102)] := by simp [Act.eval]
  unfold execOp
  simp only [ho]
  rw [hm, Sem.run_bind, hb]
  rfl
set_option maxHeartbeats 4000000 in
theorem baseP (w : World) :
    Calls Tryd.prog 34 #[] w (RetC 5 RE [ofKey keyB0, ofKey keyB1, fv 1, (ofKey keyB0) * (ofKey keyB1)] w) := by
  have HU := hh (Upd.refl (fun _ => False) w)
  go_enter Tryd.func34, Tryd.ntmps34
  refine wp_seq_k fun K0 hK0 => ?_
  refine wp_region_qSD 1 #[true] [] ([.blk ptrTo 41 (Ch 5 RE [0, 0, 0, 0])] : List SQ) (by kernel_rfl) (by kernel_rfl) (by kernel_rfl) (by kernel_rfl) ?_ ?_
  · intro i o listed an wn ho hls hst hun hdep hI hD hpre K' hK'
    rcases slot_cases (l := [0]) rfl ho hst with rfl | ⟨⟨⟩⟩
    · obtain rfl := Option.some.inj ho
      exact hI.newQ hD hls (Nat.le_refl _) (newsQ_spec (l := [0]) (by kernel_rfl) ⟨⟨_, _, rfl⟩, trivial⟩) rfl rfl rfl 41 zPt _ (run_allocQ rfl zPt_run wn) rfl zPt_ch hK'
  intro an w1 hI
  obtain ⟨vr0_0, hvr0_0, br0_0, zr0_0, rfl, hnr0_0, hbr0_0, hzr0_0⟩ := hI.hq 0 _ 0 _ rfl rfl rfl rfl
  have hupd := hI.upd
  have ha := hI.act [(0, ptrTo br0_0)] (by simp [hvr0_0]) (by kernel_rfl)
  clear hI hvr0_0
  subst ha
  simp only [List.foldl_cons, List.foldl_nil, List.setIfInBounds_toArray, List.set_cons_zero]
  have hger0_0 := geB HU hnr0_0
  have Bxr0y0 := hh hbr0_0
  have HU0 := hh (HU.out.trans hupd)
  clear hupd
  refine wpOps_nil ?_
  refine hK0 _ _ ?_
  clear hK0
  refine wp_seq_k fun K1 hK1 => ?_
  refine wp_region_qSD 5 #[true, true, true, true, true, false] [5] ([.val (.agg (numsA .u8 keyB0)), .like (IsC 5 RE [ofKey keyB0]), .val (.agg (numsA .u8 keyB1)), .like (IsC 5 RE [ofKey keyB1]), .like (IsC 5 RE [ofKey keyB0, ofKey keyB1, fv 1, (ofKey keyB0) * (ofKey keyB1)]), .val undef] : List SQ) (by kernel_rfl) (by kernel_rfl) (by kernel_rfl) (by kernel_rfl) ?_ ?_
  · intro i o listed an wn ho hls hst hun hdep hI hD hpre K' hK'
    rcases slot_cases (l := [0, 1, 2, 3, 4]) rfl ho hst with rfl | rfl | rfl | rfl | rfl | ⟨⟨⟩⟩
    · obtain rfl := Option.some.inj ho
      exact hI.pq hD hls rfl rfl rfl _ (keyB0_run rfl wn) (.val (.agg (numsA .u8 keyB0))) rfl rfl rfl hK'
    · obtain rfl := Option.some.inj ho
      obtain ⟨vp, hvp, rfl⟩ := hI.hq 0 _ 1 _ rfl rfl rfl (dp hdep 0 rfl rfl)
      exact hI.cq hD hls rfl rfl rfl 42 #[.tmp 1] _ rfl #[.agg (numsA .u8 keyB0)] (by simp [eval_of hvp]) (run_enter Tryd.func42 (by kernel_rfl) (by kernel_rfl)) (.like (IsC 5 RE [ofKey keyB0])) rfl rfl ((ofE keyB0 (keyB0_length) (keyB0_digs)).mono fun _ _ h => h.sq) hK'
    · obtain rfl := Option.some.inj ho
      exact hI.pq hD hls rfl rfl rfl _ (keyB1_run rfl wn) (.val (.agg (numsA .u8 keyB1))) rfl rfl rfl hK'
    · obtain rfl := Option.some.inj ho
      obtain ⟨vp, hvp, rfl⟩ := hI.hq 2 _ 3 _ rfl rfl rfl (dp hdep 0 rfl rfl)
      exact hI.cq hD hls rfl rfl rfl 42 #[.tmp 3] _ rfl #[.agg (numsA .u8 keyB1)] (by simp [eval_of hvp]) (run_enter Tryd.func42 (by kernel_rfl) (by kernel_rfl)) (.like (IsC 5 RE [ofKey keyB1])) rfl rfl ((ofE keyB1 (keyB1_length) (keyB1_digs)).mono fun _ _ h => h.sq) hK'
    · obtain rfl := Option.some.inj ho
      obtain ⟨vp, hvp, ap, rfl, hCp⟩ := hI.hq 1 _ 2 _ rfl rfl rfl (dp hdep 0 rfl rfl)
      obtain ⟨vq, hvq, aq, rfl, hCq⟩ := hI.hq 3 _ 4 _ rfl rfl rfl (dp hdep 1 rfl rfl)
      exact hI.cq hD hls rfl rfl rfl 64 #[.tmp 2, .tmp 4] _ rfl #[.agg ap, .agg aq] (by simp [eval_of hvp, eval_of hvq]) (run_enter Tryd.func64 (by kernel_rfl) (by kernel_rfl)) (.like (IsC 5 RE [ofKey keyB0, ofKey keyB1, fv 1, (ofKey keyB0) * (ofKey keyB1)])) rfl rfl ((ofP _ hCp hCq).mono fun _ _ h => h.sq) hK'
  intro an w2 hI
  obtain ⟨vr1_0, hvr1_0, rfl⟩ := hI.hq 0 _ 1 _ rfl rfl rfl rfl
  obtain ⟨vr1_1, hvr1_1, ar1_1, rfl, hCr1_1⟩ := hI.hq 1 _ 2 _ rfl rfl rfl rfl
  obtain ⟨vr1_2, hvr1_2, rfl⟩ := hI.hq 2 _ 3 _ rfl rfl rfl rfl
  obtain ⟨vr1_3, hvr1_3, ar1_3, rfl, hCr1_3⟩ := hI.hq 3 _ 4 _ rfl rfl rfl rfl
  obtain ⟨vr1_4, hvr1_4, ar1_4, rfl, hCr1_4⟩ := hI.hq 4 _ 5 _ rfl rfl rfl rfl
  have hupd := hI.upd
  have ha := hI.act [(1, .agg (numsA .u8 keyB0)), (2, .agg ar1_1), (3, .agg (numsA .u8 keyB1)), (4, .agg ar1_3), (5, .agg ar1_4)] (by simp [hvr1_0, hvr1_1, hvr1_2, hvr1_3, hvr1_4]) (by kernel_rfl)
  clear hI hvr1_0 hvr1_1 hvr1_2 hvr1_3 hvr1_4
  subst ha
  simp only [List.foldl_cons, List.foldl_nil, List.setIfInBounds_toArray, List.set_cons_zero, List.set_cons_succ]
  have Bxr0y0_1 := hupd.keep Bxr0y0
  have HU1 := hh (HU0.out.trans hupd)
  clear hupd
  refine wpOps_storeQ 5 rfl rfl rfl 41 (.tmp 0) (.tmp 5) rfl br0_0 0 20 rfl ar1_4 rfl 41 zr0_0 Bxr0y0_1.out szPt hCr1_4.size (by rw [hzr0_0.size]; exact Nat.le_of_ble_eq_true rfl) hCr1_4.one' ?_
  intro ws1_0 hs1_0 hus1_0
  rw [splice_all _ _ 20 hzr0_0.size hCr1_4.size] at hs1_0
  have Bxr0y0_s1_0 := hh hs1_0
  have HU1_0 := hh (HU1.out.step hus1_0 (fun i hi h => absurd hi (Nat.not_lt.2 (h.symm ▸ hger0_0.out))))
  clear hs1_0 hus1_0
  refine wpOps_nil ?_
  refine hK1 _ _ ?_
  clear hK1
  refine wp_ret ?_
  try dsimp only [Exit.then]
  try dsimp only [Exit.inBlock]
  exact bodyPost_ret (v := .agg ar1_4) (results_cell_row (fn := Tryd.f34) (p := 0) (ty := 41) rfl _ _ br0_0 41 _ (0, 0) _ rfl Bxr0y0_s1_0.out Tryd.underlying41 rfl (by rw [hCr1_4.size]; exact szPt)) rfl ⟨_, rfl, hCr1_4, HU1_0.out⟩
set_option maxHeartbeats 4000000 in
theorem equalPtrue {x1 y1 z1 t1 x2 y2 z2 t2 : Fp} {a b : Array Value} (w : World) (ha : Ch 5 RE [x1, y1, z1, t1] a) (hb : Ch 5 RE [x2, y2, z2, t2] b) (hc : decide (x1 * z2 = x2 * z1) = true) :
    Calls Tryd.prog 31 #[.agg a, .agg b] w fun e w' => e = .returned (.bool (decide (y1 * z2 = y2 * z1))) ∧ Upd (fun _ => False) w w' := by
  have HU := hh (Upd.refl (fun _ => False) w)
  go_enter Tryd.func31, Tryd.ntmps31
  refine wp_seq_k fun K0 hK0 => ?_
  refine wp_region_qSD 3 #[true, true, true] [] ([.blk ptrTo 41 (Ch 5 RE [x1, y1, z1, t1]), .blk ptrTo 41 (Ch 5 RE [x2, y2, z2, t2]), .val (.bool false)] : List SQ) (by kernel_rfl) (by kernel_rfl) (by kernel_rfl) (by kernel_rfl) ?_ ?_
  · intro i o listed an wn ho hls hst hun hdep hI hD hpre K' hK'
    rcases slot_cases (l := [0, 1, 2]) rfl ho hst with rfl | rfl | rfl | ⟨⟨⟩⟩
    · obtain rfl := Option.some.inj ho
      have hvp : an.eval (.tmp 0) = .agg a := hI.oq (by kernel_rfl) rfl
      exact hI.newQ hD hls (Nat.le_refl _) (newsQ_spec (l := [0, 1]) (by kernel_rfl) ⟨⟨_, _, rfl⟩, ⟨_, _, rfl⟩, trivial⟩) rfl rfl rfl 41 a _ (run_boxQ rfl hvp wn) rfl ha hK'
    · obtain rfl := Option.some.inj ho
      have hvp : an.eval (.tmp 1) = .agg b := hI.oq (by kernel_rfl) rfl
      exact hI.newQ hD hls (Nat.le_refl _) (newsQ_spec (l := [0, 1]) (by kernel_rfl) ⟨⟨_, _, rfl⟩, ⟨_, _, rfl⟩, trivial⟩) rfl rfl rfl 41 b _ (run_boxQ rfl hvp wn) rfl hb hK'
    · obtain rfl := Option.some.inj ho
      exact hI.pq hD hls rfl rfl rfl _ (run_moveQ (.inr rfl) (show an.eval (.const (.bool false)) = .bool false from rfl) wn) (.val (.bool false)) rfl rfl rfl hK'
  intro an w1 hI
  obtain ⟨vr0_0, hvr0_0, br0_0, zr0_0, rfl, hnr0_0, hbr0_0, hzr0_0⟩ := hI.hq 0 _ 2 _ rfl rfl rfl rfl
  obtain ⟨vr0_1, hvr0_1, br0_1, zr0_1, rfl, hnr0_1, hbr0_1, hzr0_1⟩ := hI.hq 1 _ 3 _ rfl rfl rfl rfl
  obtain ⟨vr0_2, hvr0_2, rfl⟩ := hI.hq 2 _ 4 _ rfl rfl rfl rfl
  have hupd := hI.upd
  have hner0_0_r0_1 := hh (show br0_0 ≠ br0_1 from fun e => hI.apart 0 1 _ _ 2 3 (by omega) rfl rfl rfl rfl rfl rfl rfl rfl (by rw [hvr0_0, hvr0_1, e]))
  have ha := hI.act [(2, ptrTo br0_0), (3, ptrTo br0_1), (4, .bool false)] (by simp [hvr0_0, hvr0_1, hvr0_2]) (by kernel_rfl)
  clear hI hvr0_0 hvr0_1 hvr0_2
  subst ha
  simp only [List.foldl_cons, List.foldl_nil, List.setIfInBounds_toArray, List.set_cons_zero, List.set_cons_succ]
  have hger0_0 := geB HU hnr0_0
  have hger0_1 := geB HU hnr0_1
  have Bxr0y0 := hh hbr0_0
  have Bxr0y1 := hh hbr0_1
  have HU0 := hh (HU.out.trans hupd)
  clear hupd
  refine wpOps_nil ?_
  refine hK0 _ _ ?_
  clear hK0
  refine wp_seq_k fun K1 hK1 => ?_
  refine wp_region_qD #[true, true, true, true, true, true, true, true, true, true, true, true, true, true, true, true, true, true, true, true, true, true, true, true, true] ([.val (.pointer (some ⟨br0_0, 0 + 0, none⟩)), .val (.agg (zr0_0.extract (0 + 0) (0 + 0 + 5))), .val (.pointer (some ⟨br0_1, 0 + 10, none⟩)), .val (.agg (zr0_1.extract (0 + 10) (0 + 10 + 5))), .like (IsC 5 RE [x1 * z2]), .val (.pointer (some ⟨br0_1, 0 + 0, none⟩)), .val (.agg (zr0_1.extract (0 + 0) (0 + 0 + 5))), .val (.pointer (some ⟨br0_0, 0 + 10, none⟩)), .val (.agg (zr0_0.extract (0 + 10) (0 + 10 + 5))), .like (IsC 5 RE [x2 * z1]), .val (.bool true), .val (.bool true), .val (.pointer (some ⟨br0_0, 0 + 5, none⟩)), .val (.agg (zr0_0.extract (0 + 5) (0 + 5 + 5))), .val (.pointer (some ⟨br0_1, 0 + 10, none⟩)), .val (.agg (zr0_1.extract (0 + 10) (0 + 10 + 5))), .like (IsC 5 RE [y1 * z2]), .val (.pointer (some ⟨br0_1, 0 + 5, none⟩)), .val (.agg (zr0_1.extract (0 + 5) (0 + 5 + 5))), .val (.pointer (some ⟨br0_0, 0 + 10, none⟩)), .val (.agg (zr0_0.extract (0 + 10) (0 + 10 + 5))), .like (IsC 5 RE [y2 * z1]), .val (.bool (decide (y1 * z2 = y2 * z1))), .val (.bool (decide (y1 * z2 = y2 * z1))), .val (.bool (decide (y1 * z2 = y2 * z1)))] : List SQ) (by kernel_rfl) (by kernel_rfl) (by kernel_rfl) (by kernel_rfl) ?_ ?_
  · intro i o listed an wn ho hls hst hun hdep hI hD K' hK'
    rcases slot_cases (l := [0, 1, 2, 3, 4, 5, 6, 7, 8, 9, 10, 11, 12, 13, 14, 15, 16, 17, 18, 19, 20, 21, 22, 23, 24]) rfl ho hst with rfl | rfl | rfl | rfl | rfl | rfl | rfl | rfl | rfl | rfl | rfl | rfl | rfl | rfl | rfl | rfl | rfl | rfl | rfl | rfl | rfl | rfl | rfl | rfl | rfl | ⟨⟨⟩⟩
    · obtain rfl := Option.some.inj ho
      have hvp : an.eval (.tmp 2) = ptrTo br0_0 := hI.oq (by kernel_rfl) rfl
      exact hI.pq hD hls rfl rfl rfl _ (run_fieldQ (g := br0_0) (off := 0) (k := 0) rfl hvp Tryd.underlying41 rfl (by rfl) szE wn) (.val (.pointer (some ⟨br0_0, 0 + 0, none⟩))) rfl rfl rfl hK'
    · obtain rfl := Option.some.inj ho
      obtain ⟨vp, hvp, rfl⟩ := hI.hq 0 _ 5 _ rfl rfl rfl (dp hdep 0 rfl rfl)
      exact hI.pq hD hls rfl rfl rfl _ (run_loadQ rfl (eval_of hvp) wn (hI.upd.keepD Bxr0y0).out Tryd.underlying39 rfl szE (by rw [hzr0_0.size]; exact Nat.le_of_ble_eq_true rfl)) (.val (.agg (zr0_0.extract (0 + 0) (0 + 0 + 5)))) rfl rfl rfl hK'
    · obtain rfl := Option.some.inj ho
      have hvp : an.eval (.tmp 3) = ptrTo br0_1 := hI.oq (by kernel_rfl) rfl
      exact hI.pq hD hls rfl rfl rfl _ (run_fieldQ (g := br0_1) (off := 0) (k := 10) rfl hvp Tryd.underlying41 rfl (by rfl) szE wn) (.val (.pointer (some ⟨br0_1, 0 + 10, none⟩))) rfl rfl rfl hK'
    · obtain rfl := Option.some.inj ho
      obtain ⟨vp, hvp, rfl⟩ := hI.hq 2 _ 7 _ rfl rfl rfl (dp hdep 0 rfl rfl)
      exact hI.pq hD hls rfl rfl rfl _ (run_loadQ rfl (eval_of hvp) wn (hI.upd.keepD Bxr0y1).out Tryd.underlying39 rfl szE (by rw [hzr0_1.size]; exact Nat.le_of_ble_eq_true rfl)) (.val (.agg (zr0_1.extract (0 + 10) (0 + 10 + 5)))) rfl rfl rfl hK'
    · obtain rfl := Option.some.inj ho
      obtain ⟨vp, hvp, rfl⟩ := hI.hq 1 _ 6 _ rfl rfl rfl (dp hdep 0 rfl rfl)
      obtain ⟨vq, hvq, rfl⟩ := hI.hq 3 _ 8 _ rfl rfl rfl (dp hdep 1 rfl rfl)
      exact hI.cq hD hls rfl rfl rfl 44 #[.tmp 6, .tmp 8] _ rfl #[.agg (zr0_0.extract (0 + 0) (0 + 0 + 5)), .agg (zr0_1.extract (0 + 10) (0 + 10 + 5))] (by simp [eval_of hvp, eval_of hvq]) (run_enter Tryd.func44 (by kernel_rfl) (by kernel_rfl)) (.like (IsC 5 RE [x1 * z2])) rfl rfl ((mulE (hzr0_0.at 0 (0 + 0) rfl rfl) (hzr0_1.at 2 (0 + 10) rfl rfl)).mono fun _ _ h => h.sq) hK'
    · obtain rfl := Option.some.inj ho
      have hvp : an.eval (.tmp 3) = ptrTo br0_1 := hI.oq (by kernel_rfl) rfl
      exact hI.pq hD hls rfl rfl rfl _ (run_fieldQ (g := br0_1) (off := 0) (k := 0) rfl hvp Tryd.underlying41 rfl (by rfl) szE wn) (.val (.pointer (some ⟨br0_1, 0 + 0, none⟩))) rfl rfl rfl hK'
    · obtain rfl := Option.some.inj ho
      obtain ⟨vp, hvp, rfl⟩ := hI.hq 5 _ 10 _ rfl rfl rfl (dp hdep 0 rfl rfl)
      exact hI.pq hD hls rfl rfl rfl _ (run_loadQ rfl (eval_of hvp) wn (hI.upd.keepD Bxr0y1).out Tryd.underlying39 rfl szE (by rw [hzr0_1.size]; exact Nat.le_of_ble_eq_true rfl)) (.val (.agg (zr0_1.extract (0 + 0) (0 + 0 + 5)))) rfl rfl rfl hK'
    · obtain rfl := Option.some.inj ho
      have hvp : an.eval (.tmp 2) = ptrTo br0_0 := hI.oq (by kernel_rfl) rfl
      exact hI.pq hD hls rfl rfl rfl _ (run_fieldQ (g := br0_0) (off := 0) (k := 10) rfl hvp Tryd.underlying41 rfl (by rfl) szE wn) (.val (.pointer (some ⟨br0_0, 0 + 10, none⟩))) rfl rfl rfl hK'
    · obtain rfl := Option.some.inj ho
      obtain ⟨vp, hvp, rfl⟩ := hI.hq 7 _ 12 _ rfl rfl rfl (dp hdep 0 rfl rfl)
      exact hI.pq hD hls rfl rfl rfl _ (run_loadQ rfl (eval_of hvp) wn (hI.upd.keepD Bxr0y0).out Tryd.underlying39 rfl szE (by rw [hzr0_0.size]; exact Nat.le_of_ble_eq_true rfl)) (.val (.agg (zr0_0.extract (0 + 10) (0 + 10 + 5)))) rfl rfl rfl hK'
    · obtain rfl := Option.some.inj ho
      obtain ⟨vp, hvp, rfl⟩ := hI.hq 6 _ 11 _ rfl rfl rfl (dp hdep 0 rfl rfl)
      obtain ⟨vq, hvq, rfl⟩ := hI.hq 8 _ 13 _ rfl rfl rfl (dp hdep 1 rfl rfl)
      exact hI.cq hD hls rfl rfl rfl 44 #[.tmp 11, .tmp 13] _ rfl #[.agg (zr0_1.extract (0 + 0) (0 + 0 + 5)), .agg (zr0_0.extract (0 + 10) (0 + 10 + 5))] (by simp [eval_of hvp, eval_of hvq]) (run_enter Tryd.func44 (by kernel_rfl) (by kernel_rfl)) (.like (IsC 5 RE [x2 * z1])) rfl rfl ((mulE (hzr0_1.at 0 (0 + 0) rfl rfl) (hzr0_0.at 2 (0 + 10) rfl rfl)).mono fun _ _ h => h.sq) hK'
    · obtain rfl := Option.some.inj ho
      obtain ⟨vp, hvp, ap, rfl, hCp⟩ := hI.hq 4 _ 9 _ rfl rfl rfl (dp hdep 0 rfl rfl)
      obtain ⟨vq, hvq, aq, rfl, hCq⟩ := hI.hq 9 _ 14 _ rfl rfl rfl (dp hdep 1 rfl rfl)
      exact hI.cq hD hls rfl rfl rfl 71 #[.tmp 9, .tmp 14] _ rfl #[.agg ap, .agg aq] (by simp [eval_of hvp, eval_of hvq]) (run_enter Tryd.func71 (by kernel_rfl) (by kernel_rfl)) (.val (.bool true)) rfl rfl ((equalE hCp hCq).mono fun _ _ h => ret_val (ret_b h hc)) hK'
    · obtain rfl := Option.some.inj ho
      obtain ⟨vp, hvp, rfl⟩ := hI.hq 10 _ 15 _ rfl rfl rfl (dp hdep 0 rfl rfl)
      exact hI.pq hD hls rfl rfl rfl _ (run_moveQ (.inl rfl) (eval_of hvp) wn) (.val (.bool true)) rfl rfl rfl hK'
    · obtain rfl := Option.some.inj ho
      obtain ⟨vg, hvg, rfl⟩ := hI.hq 11 _ 16 _ rfl rfl rfl (dp hdep 0 rfl rfl)
      have hvp : an.eval (.tmp 2) = ptrTo br0_0 := hI.oq (by kernel_rfl) rfl
      exact hI.pq hD hls rfl (wanted_of rfl rfl rfl hvg) rfl _ (run_fieldQ (g := br0_0) (off := 0) (k := 5) rfl hvp Tryd.underlying41 rfl (by rfl) szE wn) (.val (.pointer (some ⟨br0_0, 0 + 5, none⟩))) rfl rfl rfl hK'
    · obtain rfl := Option.some.inj ho
      obtain ⟨vg, hvg, rfl⟩ := hI.hq 11 _ 16 _ rfl rfl rfl (dp hdep 1 rfl rfl)
      obtain ⟨vp, hvp, rfl⟩ := hI.hq 12 _ 17 _ rfl rfl rfl (dp hdep 0 rfl rfl)
      exact hI.pq hD hls rfl (wanted_of rfl rfl rfl hvg) rfl _ (run_loadQ rfl (eval_of hvp) wn (hI.upd.keepD Bxr0y0).out Tryd.underlying39 rfl szE (by rw [hzr0_0.size]; exact Nat.le_of_ble_eq_true rfl)) (.val (.agg (zr0_0.extract (0 + 5) (0 + 5 + 5)))) rfl rfl rfl hK'
    · obtain rfl := Option.some.inj ho
      obtain ⟨vg, hvg, rfl⟩ := hI.hq 11 _ 16 _ rfl rfl rfl (dp hdep 0 rfl rfl)
      have hvp : an.eval (.tmp 3) = ptrTo br0_1 := hI.oq (by kernel_rfl) rfl
      exact hI.pq hD hls rfl (wanted_of rfl rfl rfl hvg) rfl _ (run_fieldQ (g := br0_1) (off := 0) (k := 10) rfl hvp Tryd.underlying41 rfl (by rfl) szE wn) (.val (.pointer (some ⟨br0_1, 0 + 10, none⟩))) rfl rfl rfl hK'
    · obtain rfl := Option.some.inj ho
      obtain ⟨vg, hvg, rfl⟩ := hI.hq 11 _ 16 _ rfl rfl rfl (dp hdep 1 rfl rfl)
      obtain ⟨vp, hvp, rfl⟩ := hI.hq 14 _ 19 _ rfl rfl rfl (dp hdep 0 rfl rfl)
      exact hI.pq hD hls rfl (wanted_of rfl rfl rfl hvg) rfl _ (run_loadQ rfl (eval_of hvp) wn (hI.upd.keepD Bxr0y1).out Tryd.underlying39 rfl szE (by rw [hzr0_1.size]; exact Nat.le_of_ble_eq_true rfl)) (.val (.agg (zr0_1.extract (0 + 10) (0 + 10 + 5)))) rfl rfl rfl hK'
    · obtain rfl := Option.some.inj ho
      obtain ⟨vg, hvg, rfl⟩ := hI.hq 11 _ 16 _ rfl rfl rfl (dp hdep 3 rfl rfl)
      obtain ⟨vp, hvp, rfl⟩ := hI.hq 13 _ 18 _ rfl rfl rfl (dp hdep 0 rfl rfl)
      obtain ⟨vq, hvq, rfl⟩ := hI.hq 15 _ 20 _ rfl rfl rfl (dp hdep 1 rfl rfl)
      exact hI.cq hD hls rfl (wanted_of rfl rfl rfl hvg) rfl 44 #[.tmp 18, .tmp 20] _ rfl #[.agg (zr0_0.extract (0 + 5) (0 + 5 + 5)), .agg (zr0_1.extract (0 + 10) (0 + 10 + 5))] (by simp [eval_of hvp, eval_of hvq]) (run_enter Tryd.func44 (by kernel_rfl) (by kernel_rfl)) (.like (IsC 5 RE [y1 * z2])) rfl rfl ((mulE (hzr0_0.at 1 (0 + 5) rfl rfl) (hzr0_1.at 2 (0 + 10) rfl rfl)).mono fun _ _ h => h.sq) hK'
    · obtain rfl := Option.some.inj ho
      obtain ⟨vg, hvg, rfl⟩ := hI.hq 11 _ 16 _ rfl rfl rfl (dp hdep 0 rfl rfl)
      have hvp : an.eval (.tmp 3) = ptrTo br0_1 := hI.oq (by kernel_rfl) rfl
      exact hI.pq hD hls rfl (wanted_of rfl rfl rfl hvg) rfl _ (run_fieldQ (g := br0_1) (off := 0) (k := 5) rfl hvp Tryd.underlying41 rfl (by rfl) szE wn) (.val (.pointer (some ⟨br0_1, 0 + 5, none⟩))) rfl rfl rfl hK'
    · obtain rfl := Option.some.inj ho
      obtain ⟨vg, hvg, rfl⟩ := hI.hq 11 _ 16 _ rfl rfl rfl (dp hdep 1 rfl rfl)
      obtain ⟨vp, hvp, rfl⟩ := hI.hq 17 _ 22 _ rfl rfl rfl (dp hdep 0 rfl rfl)
      exact hI.pq hD hls rfl (wanted_of rfl rfl rfl hvg) rfl _ (run_loadQ rfl (eval_of hvp) wn (hI.upd.keepD Bxr0y1).out Tryd.underlying39 rfl szE (by rw [hzr0_1.size]; exact Nat.le_of_ble_eq_true rfl)) (.val (.agg (zr0_1.extract (0 + 5) (0 + 5 + 5)))) rfl rfl rfl hK'
    · obtain rfl := Option.some.inj ho
      obtain ⟨vg, hvg, rfl⟩ := hI.hq 11 _ 16 _ rfl rfl rfl (dp hdep 0 rfl rfl)
      have hvp : an.eval (.tmp 2) = ptrTo br0_0 := hI.oq (by kernel_rfl) rfl
      exact hI.pq hD hls rfl (wanted_of rfl rfl rfl hvg) rfl _ (run_fieldQ (g := br0_0) (off := 0) (k := 10) rfl hvp Tryd.underlying41 rfl (by rfl) szE wn) (.val (.pointer (some ⟨br0_0, 0 + 10, none⟩))) rfl rfl rfl hK'
    · obtain rfl := Option.some.inj ho
      obtain ⟨vg, hvg, rfl⟩ := hI.hq 11 _ 16 _ rfl rfl rfl (dp hdep 1 rfl rfl)
      obtain ⟨vp, hvp, rfl⟩ := hI.hq 19 _ 24 _ rfl rfl rfl (dp hdep 0 rfl rfl)
      exact hI.pq hD hls rfl (wanted_of rfl rfl rfl hvg) rfl _ (run_loadQ rfl (eval_of hvp) wn (hI.upd.keepD Bxr0y0).out Tryd.underlying39 rfl szE (by rw [hzr0_0.size]; exact Nat.le_of_ble_eq_true rfl)) (.val (.agg (zr0_0.extract (0 + 10) (0 + 10 + 5)))) rfl rfl rfl hK'
    · obtain rfl := Option.some.inj ho
      obtain ⟨vg, hvg, rfl⟩ := hI.hq 11 _ 16 _ rfl rfl rfl (dp hdep 3 rfl rfl)
      obtain ⟨vp, hvp, rfl⟩ := hI.hq 18 _ 23 _ rfl rfl rfl (dp hdep 0 rfl rfl)
      obtain ⟨vq, hvq, rfl⟩ := hI.hq 20 _ 25 _ rfl rfl rfl (dp hdep 1 rfl rfl)
      exact hI.cq hD hls rfl (wanted_of rfl rfl rfl hvg) rfl 44 #[.tmp 23, .tmp 25] _ rfl #[.agg (zr0_1.extract (0 + 5) (0 + 5 + 5)), .agg (zr0_0.extract (0 + 10) (0 + 10 + 5))] (by simp [eval_of hvp, eval_of hvq]) (run_enter Tryd.func44 (by kernel_rfl) (by kernel_rfl)) (.like (IsC 5 RE [y2 * z1])) rfl rfl ((mulE (hzr0_1.at 1 (0 + 5) rfl rfl) (hzr0_0.at 2 (0 + 10) rfl rfl)).mono fun _ _ h => h.sq) hK'
    · obtain rfl := Option.some.inj ho
      obtain ⟨vg, hvg, rfl⟩ := hI.hq 11 _ 16 _ rfl rfl rfl (dp hdep 3 rfl rfl)
      obtain ⟨vp, hvp, ap, rfl, hCp⟩ := hI.hq 16 _ 21 _ rfl rfl rfl (dp hdep 0 rfl rfl)
      obtain ⟨vq, hvq, aq, rfl, hCq⟩ := hI.hq 21 _ 26 _ rfl rfl rfl (dp hdep 1 rfl rfl)
      exact hI.cq hD hls rfl (wanted_of rfl rfl rfl hvg) rfl 71 #[.tmp 21, .tmp 26] _ rfl #[.agg ap, .agg aq] (by simp [eval_of hvp, eval_of hvq]) (run_enter Tryd.func71 (by kernel_rfl) (by kernel_rfl)) (.val (.bool (decide (y1 * z2 = y2 * z1)))) rfl rfl ((equalE hCp hCq).mono fun _ _ h => ret_val h) hK'
    · obtain rfl := Option.some.inj ho
      obtain ⟨vp, hvp, rfl⟩ := hI.hq 11 _ 16 _ rfl rfl rfl (dp hdep 0 rfl rfl)
      obtain ⟨vq, hvq, rfl⟩ := hI.hq 22 _ 27 _ rfl rfl rfl (dp hdep 1 rfl rfl)
      exact hI.pq hD hls rfl rfl rfl _ (run_pickT rfl (eval_of hvp) (eval_of hvq) wn) (.val (.bool (decide (y1 * z2 = y2 * z1)))) rfl rfl rfl hK'
    · obtain rfl := Option.some.inj ho
      obtain ⟨vp, hvp, rfl⟩ := hI.hq 23 _ 28 _ rfl rfl rfl (dp hdep 0 rfl rfl)
      exact hI.pq hD hls rfl rfl rfl _ (run_moveQ (.inr rfl) (eval_of hvp) wn) (.val (.bool (decide (y1 * z2 = y2 * z1)))) rfl rfl rfl hK'
  intro fuel an w2 hf hI
  obtain ⟨vr1_0, hvr1_0, rfl⟩ := hI.hq 0 _ 5 _ rfl rfl rfl rfl
  obtain ⟨vr1_1, hvr1_1, rfl⟩ := hI.hq 1 _ 6 _ rfl rfl rfl rfl
  obtain ⟨vr1_2, hvr1_2, rfl⟩ := hI.hq 2 _ 7 _ rfl rfl rfl rfl
  obtain ⟨vr1_3, hvr1_3, rfl⟩ := hI.hq 3 _ 8 _ rfl rfl rfl rfl
  obtain ⟨vr1_4, hvr1_4, ar1_4, rfl, hCr1_4⟩ := hI.hq 4 _ 9 _ rfl rfl rfl rfl
  obtain ⟨vr1_5, hvr1_5, rfl⟩ := hI.hq 5 _ 10 _ rfl rfl rfl rfl
  obtain ⟨vr1_6, hvr1_6, rfl⟩ := hI.hq 6 _ 11 _ rfl rfl rfl rfl
  obtain ⟨vr1_7, hvr1_7, rfl⟩ := hI.hq 7 _ 12 _ rfl rfl rfl rfl
  obtain ⟨vr1_8, hvr1_8, rfl⟩ := hI.hq 8 _ 13 _ rfl rfl rfl rfl
  obtain ⟨vr1_9, hvr1_9, ar1_9, rfl, hCr1_9⟩ := hI.hq 9 _ 14 _ rfl rfl rfl rfl
  obtain ⟨vr1_10, hvr1_10, rfl⟩ := hI.hq 10 _ 15 _ rfl rfl rfl rfl
  obtain ⟨vr1_11, hvr1_11, rfl⟩ := hI.hq 11 _ 16 _ rfl rfl rfl rfl
  obtain ⟨vr1_12, hvr1_12, rfl⟩ := hI.hq 12 _ 17 _ rfl rfl rfl rfl
  obtain ⟨vr1_13, hvr1_13, rfl⟩ := hI.hq 13 _ 18 _ rfl rfl rfl rfl
  obtain ⟨vr1_14, hvr1_14, rfl⟩ := hI.hq 14 _ 19 _ rfl rfl rfl rfl
  obtain ⟨vr1_15, hvr1_15, rfl⟩ := hI.hq 15 _ 20 _ rfl rfl rfl rfl
  obtain ⟨vr1_16, hvr1_16, ar1_16, rfl, hCr1_16⟩ := hI.hq 16 _ 21 _ rfl rfl rfl rfl
  obtain ⟨vr1_17, hvr1_17, rfl⟩ := hI.hq 17 _ 22 _ rfl rfl rfl rfl
  obtain ⟨vr1_18, hvr1_18, rfl⟩ := hI.hq 18 _ 23 _ rfl rfl rfl rfl
  obtain ⟨vr1_19, hvr1_19, rfl⟩ := hI.hq 19 _ 24 _ rfl rfl rfl rfl
  obtain ⟨vr1_20, hvr1_20, rfl⟩ := hI.hq 20 _ 25 _ rfl rfl rfl rfl
  obtain ⟨vr1_21, hvr1_21, ar1_21, rfl, hCr1_21⟩ := hI.hq 21 _ 26 _ rfl rfl rfl rfl
  obtain ⟨vr1_22, hvr1_22, rfl⟩ := hI.hq 22 _ 27 _ rfl rfl rfl rfl
  obtain ⟨vr1_23, hvr1_23, rfl⟩ := hI.hq 23 _ 28 _ rfl rfl rfl rfl
  obtain ⟨vr1_24, hvr1_24, rfl⟩ := hI.hq 24 _ 4 _ rfl rfl rfl rfl
  have hupd := hI.upd
  have ha := hI.act [(5, .pointer (some ⟨br0_0, 0 + 0, none⟩)), (6, .agg (zr0_0.extract (0 + 0) (0 + 0 + 5))), (7, .pointer (some ⟨br0_1, 0 + 10, none⟩)), (8, .agg (zr0_1.extract (0 + 10) (0 + 10 + 5))), (9, .agg ar1_4), (10, .pointer (some ⟨br0_1, 0 + 0, none⟩)), (11, .agg (zr0_1.extract (0 + 0) (0 + 0 + 5))), (12, .pointer (some ⟨br0_0, 0 + 10, none⟩)), (13, .agg (zr0_0.extract (0 + 10) (0 + 10 + 5))), (14, .agg ar1_9), (15, .bool true), (16, .bool true), (17, .pointer (some ⟨br0_0, 0 + 5, none⟩)), (18, .agg (zr0_0.extract (0 + 5) (0 + 5 + 5))), (19, .pointer (some ⟨br0_1, 0 + 10, none⟩)), (20, .agg (zr0_1.extract (0 + 10) (0 + 10 + 5))), (21, .agg ar1_16), (22, .pointer (some ⟨br0_1, 0 + 5, none⟩)), (23, .agg (zr0_1.extract (0 + 5) (0 + 5 + 5))), (24, .pointer (some ⟨br0_0, 0 + 10, none⟩)), (25, .agg (zr0_0.extract (0 + 10) (0 + 10 + 5))), (26, .agg ar1_21), (27, .bool (decide (y1 * z2 = y2 * z1))), (28, .bool (decide (y1 * z2 = y2 * z1))), (4, .bool (decide (y1 * z2 = y2 * z1)))] (by simp [hvr1_0, hvr1_1, hvr1_2, hvr1_3, hvr1_4, hvr1_5, hvr1_6, hvr1_7, hvr1_8, hvr1_9, hvr1_10, hvr1_11, hvr1_12, hvr1_13, hvr1_14, hvr1_15, hvr1_16, hvr1_17, hvr1_18, hvr1_19, hvr1_20, hvr1_21, hvr1_22, hvr1_23, hvr1_24]) (by kernel_rfl)
  clear hI hvr1_0 hvr1_1 hvr1_2 hvr1_3 hvr1_4 hvr1_5 hvr1_6 hvr1_7 hvr1_8 hvr1_9 hvr1_10 hvr1_11 hvr1_12 hvr1_13 hvr1_14 hvr1_15 hvr1_16 hvr1_17 hvr1_18 hvr1_19 hvr1_20 hvr1_21 hvr1_22 hvr1_23 hvr1_24
  subst ha
  simp only [List.foldl_cons, List.foldl_nil, List.setIfInBounds_toArray, List.set_cons_zero, List.set_cons_succ]
  have Bxr0y0_1 := hupd.keepD Bxr0y0
  have Bxr0y1_1 := hupd.keepD Bxr0y1
  have HU1 := hh (HU0.out.drew.trans hupd)
  clear hupd
  refine wpAny_done (by kernel_rfl) ?_ _
  refine hK1 _ _ ?_
  clear hK1
  refine wp_ret ?_
  try dsimp only [Exit.then]
  try dsimp only [Exit.inBlock]
  exact bodyPost_ret (v := .bool (decide (y1 * z2 = y2 * z1))) (results_tmpQ (fn := Tryd.f31) (t := 4) rfl _ _ (.bool (decide (y1 * z2 = y2 * z1))) rfl) rfl ⟨rfl, HU1.out⟩
set_option maxHeartbeats 4000000 in
theorem equalPfalse {x1 y1 z1 t1 x2 y2 z2 t2 : Fp} {a b : Array Value} (w : World) (ha : Ch 5 RE [x1, y1, z1, t1] a) (hb : Ch 5 RE [x2, y2, z2, t2] b) (hc : decide (x1 * z2 = x2 * z1) = false) :
    Calls Tryd.prog 31 #[.agg a, .agg b] w fun e w' => e = .returned (.bool false) ∧ Upd (fun _ => False) w w' := by
  have HU := hh (Upd.refl (fun _ => False) w)
  go_enter Tryd.func31, Tryd.ntmps31
  refine wp_seq_k fun K0 hK0 => ?_
  refine wp_region_qSD 3 #[true, true, true] [] ([.blk ptrTo 41 (Ch 5 RE [x1, y1, z1, t1]), .blk ptrTo 41 (Ch 5 RE [x2, y2, z2, t2]), .val (.bool false)] : List SQ) (by kernel_rfl) (by kernel_rfl) (by kernel_rfl) (by kernel_rfl) ?_ ?_
  · intro i o listed an wn ho hls hst hun hdep hI hD hpre K' hK'
    rcases slot_cases (l := [0, 1, 2]) rfl ho hst with rfl | rfl | rfl | ⟨⟨⟩⟩
    · obtain rfl := Option.some.inj ho
      have hvp : an.eval (.tmp 0) = .agg a := hI.oq (by kernel_rfl) rfl
      exact hI.newQ hD hls (Nat.le_refl _) (newsQ_spec (l := [0, 1]) (by kernel_rfl) ⟨⟨_, _, rfl⟩, ⟨_, _, rfl⟩, trivial⟩) rfl rfl rfl 41 a _ (run_boxQ rfl hvp wn) rfl ha hK'
    · obtain rfl := Option.some.inj ho
      have hvp : an.eval (.tmp 1) = .agg b := hI.oq (by kernel_rfl) rfl
      exact hI.newQ hD hls (Nat.le_refl _) (newsQ_spec (l := [0, 1]) (by kernel_rfl) ⟨⟨_, _, rfl⟩, ⟨_, _, rfl⟩, trivial⟩) rfl rfl rfl 41 b _ (run_boxQ rfl hvp wn) rfl hb hK'
    · obtain rfl := Option.some.inj ho
      exact hI.pq hD hls rfl rfl rfl _ (run_moveQ (.inr rfl) (show an.eval (.const (.bool false)) = .bool false from rfl) wn) (.val (.bool false)) rfl rfl rfl hK'
  intro an w1 hI
  obtain ⟨vr0_0, hvr0_0, br0_0, zr0_0, rfl, hnr0_0, hbr0_0, hzr0_0⟩ := hI.hq 0 _ 2 _ rfl rfl rfl rfl
  obtain ⟨vr0_1, hvr0_1, br0_1, zr0_1, rfl, hnr0_1, hbr0_1, hzr0_1⟩ := hI.hq 1 _ 3 _ rfl rfl rfl rfl
  obtain ⟨vr0_2, hvr0_2, rfl⟩ := hI.hq 2 _ 4 _ rfl rfl rfl rfl
  have hupd := hI.upd
  have hner0_0_r0_1 := hh (show br0_0 ≠ br0_1 from fun e => hI.apart 0 1 _ _ 2 3 (by omega) rfl rfl rfl rfl rfl rfl rfl rfl (by rw [hvr0_0, hvr0_1, e]))
  have ha := hI.act [(2, ptrTo br0_0), (3, ptrTo br0_1), (4, .bool false)] (by simp [hvr0_0, hvr0_1, hvr0_2]) (by kernel_rfl)
  clear hI hvr0_0 hvr0_1 hvr0_2
  subst ha
  simp only [List.foldl_cons, List.foldl_nil, List.setIfInBounds_toArray, List.set_cons_zero, List.set_cons_succ]
  have hger0_0 := geB HU hnr0_0
  have hger0_1 := geB HU hnr0_1
  have Bxr0y0 := hh hbr0_0
  have Bxr0y1 := hh hbr0_1
  have HU0 := hh (HU.out.trans hupd)
  clear hupd
  refine wpOps_nil ?_
  refine hK0 _ _ ?_
  clear hK0
  refine wp_seq_k fun K1 hK1 => ?_
  refine wp_region_qD #[true, true, true, true, true, true, true, true, true, true, true, true, true, true, true, true, true, true, true, true, true, true, true, true, true] ([.val (.pointer (some ⟨br0_0, 0 + 0, none⟩)), .val (.agg (zr0_0.extract (0 + 0) (0 + 0 + 5))), .val (.pointer (some ⟨br0_1, 0 + 10, none⟩)), .val (.agg (zr0_1.extract (0 + 10) (0 + 10 + 5))), .like (IsC 5 RE [x1 * z2]), .val (.pointer (some ⟨br0_1, 0 + 0, none⟩)), .val (.agg (zr0_1.extract (0 + 0) (0 + 0 + 5))), .val (.pointer (some ⟨br0_0, 0 + 10, none⟩)), .val (.agg (zr0_0.extract (0 + 10) (0 + 10 + 5))), .like (IsC 5 RE [x2 * z1]), .val (.bool false), .val (.bool false), .val undef, .val undef, .val undef, .val undef, .val undef, .val undef, .val undef, .val undef, .val undef, .val undef, .val undef, .val (.bool false), .val (.bool false)] : List SQ) (by kernel_rfl) (by kernel_rfl) (by kernel_rfl) (by kernel_rfl) ?_ ?_
  · intro i o listed an wn ho hls hst hun hdep hI hD K' hK'
    rcases slot_cases (l := [0, 1, 2, 3, 4, 5, 6, 7, 8, 9, 10, 11, 12, 13, 14, 15, 16, 17, 18, 19, 20, 21, 22, 23, 24]) rfl ho hst with rfl | rfl | rfl | rfl | rfl | rfl | rfl | rfl | rfl | rfl | rfl | rfl | rfl | rfl | rfl | rfl | rfl | rfl | rfl | rfl | rfl | rfl | rfl | rfl | rfl | ⟨⟨⟩⟩
    · obtain rfl := Option.some.inj ho
      have hvp : an.eval (.tmp 2) = ptrTo br0_0 := hI.oq (by kernel_rfl) rfl
      exact hI.pq hD hls rfl rfl rfl _ (run_fieldQ (g := br0_0) (off := 0) (k := 0) rfl hvp Tryd.underlying41 rfl (by rfl) szE wn) (.val (.pointer (some ⟨br0_0, 0 + 0, none⟩))) rfl rfl rfl hK'
    · obtain rfl := Option.some.inj ho
      obtain ⟨vp, hvp, rfl⟩ := hI.hq 0 _ 5 _ rfl rfl rfl (dp hdep 0 rfl rfl)
      exact hI.pq hD hls rfl rfl rfl _ (run_loadQ rfl (eval_of hvp) wn (hI.upd.keepD Bxr0y0).out Tryd.underlying39 rfl szE (by rw [hzr0_0.size]; exact Nat.le_of_ble_eq_true rfl)) (.val (.agg (zr0_0.extract (0 + 0) (0 + 0 + 5)))) rfl rfl rfl hK'
    · obtain rfl := Option.some.inj ho
      have hvp : an.eval (.tmp 3) = ptrTo br0_1 := hI.oq (by kernel_rfl) rfl
      exact hI.pq hD hls rfl rfl rfl _ (run_fieldQ (g := br0_1) (off := 0) (k := 10) rfl hvp Tryd.underlying41 rfl (by rfl) szE wn) (.val (.pointer (some ⟨br0_1, 0 + 10, none⟩))) rfl rfl rfl hK'
    · obtain rfl := Option.some.inj ho
      obtain ⟨vp, hvp, rfl⟩ := hI.hq 2 _ 7 _ rfl rfl rfl (dp hdep 0 rfl rfl)
      exact hI.pq hD hls rfl rfl rfl _ (run_loadQ rfl (eval_of hvp) wn (hI.upd.keepD Bxr0y1).out Tryd.underlying39 rfl szE (by rw [hzr0_1.size]; exact Nat.le_of_ble_eq_true rfl)) (.val (.agg (zr0_1.extract (0 + 10) (0 + 10 + 5)))) rfl rfl rfl hK'
    · obtain rfl := Option.some.inj ho
      obtain ⟨vp, hvp, rfl⟩ := hI.hq 1 _ 6 _ rfl rfl rfl (dp hdep 0 rfl rfl)
      obtain ⟨vq, hvq, rfl⟩ := hI.hq 3 _ 8 _ rfl rfl rfl (dp hdep 1 rfl rfl)
      exact hI.cq hD hls rfl rfl rfl 44 #[.tmp 6, .tmp 8] _ rfl #[.agg (zr0_0.extract (0 + 0) (0 + 0 + 5)), .agg (zr0_1.extract (0 + 10) (0 + 10 + 5))] (by simp [eval_of hvp, eval_of hvq]) (run_enter Tryd.func44 (by kernel_rfl) (by kernel_rfl)) (.like (IsC 5 RE [x1 * z2])) rfl rfl ((mulE (hzr0_0.at 0 (0 + 0) rfl rfl) (hzr0_1.at 2 (0 + 10) rfl rfl)).mono fun _ _ h => h.sq) hK'
    · obtain rfl := Option.some.inj ho
      have hvp : an.eval (.tmp 3) = ptrTo br0_1 := hI.oq (by kernel_rfl) rfl
      exact hI.pq hD hls rfl rfl rfl _ (run_fieldQ (g := br0_1) (off := 0) (k := 0) rfl hvp Tryd.underlying41 rfl (by rfl) szE wn) (.val (.pointer (some ⟨br0_1, 0 + 0, none⟩))) rfl rfl rfl hK'
    · obtain rfl := Option.some.inj ho
      obtain ⟨vp, hvp, rfl⟩ := hI.hq 5 _ 10 _ rfl rfl rfl (dp hdep 0 rfl rfl)
      exact hI.pq hD hls rfl rfl rfl _ (run_loadQ rfl (eval_of hvp) wn (hI.upd.keepD Bxr0y1).out Tryd.underlying39 rfl szE (by rw [hzr0_1.size]; exact Nat.le_of_ble_eq_true rfl)) (.val (.agg (zr0_1.extract (0 + 0) (0 + 0 + 5)))) rfl rfl rfl hK'
    · obtain rfl := Option.some.inj ho
      have hvp : an.eval (.tmp 2) = ptrTo br0_0 := hI.oq (by kernel_rfl) rfl
      exact hI.pq hD hls rfl rfl rfl _ (run_fieldQ (g := br0_0) (off := 0) (k := 10) rfl hvp Tryd.underlying41 rfl (by rfl) szE wn) (.val (.pointer (some ⟨br0_0, 0 + 10, none⟩))) rfl rfl rfl hK'
    · obtain rfl := Option.some.inj ho
      obtain ⟨vp, hvp, rfl⟩ := hI.hq 7 _ 12 _ rfl rfl rfl (dp hdep 0 rfl rfl)
      exact hI.pq hD hls rfl rfl rfl _ (run_loadQ rfl (eval_of hvp) wn (hI.upd.keepD Bxr0y0).out Tryd.underlying39 rfl szE (by rw [hzr0_0.size]; exact Nat.le_of_ble_eq_true rfl)) (.val (.agg (zr0_0.extract (0 + 10) (0 + 10 + 5)))) rfl rfl rfl hK'
    · obtain rfl := Option.some.inj ho
      obtain ⟨vp, hvp, rfl⟩ := hI.hq 6 _ 11 _ rfl rfl rfl (dp hdep 0 rfl rfl)
      obtain ⟨vq, hvq, rfl⟩ := hI.hq 8 _ 13 _ rfl rfl rfl (dp hdep 1 rfl rfl)
      exact hI.cq hD hls rfl rfl rfl 44 #[.tmp 11, .tmp 13] _ rfl #[.agg (zr0_1.extract (0 + 0) (0 + 0 + 5)), .agg (zr0_0.extract (0 + 10) (0 + 10 + 5))] (by simp [eval_of hvp, eval_of hvq]) (run_enter Tryd.func44 (by kernel_rfl) (by kernel_rfl)) (.like (IsC 5 RE [x2 * z1])) rfl rfl ((mulE (hzr0_1.at 0 (0 + 0) rfl rfl) (hzr0_0.at 2 (0 + 10) rfl rfl)).mono fun _ _ h => h.sq) hK'
    · obtain rfl := Option.some.inj ho
      obtain ⟨vp, hvp, ap, rfl, hCp⟩ := hI.hq 4 _ 9 _ rfl rfl rfl (dp hdep 0 rfl rfl)
      obtain ⟨vq, hvq, aq, rfl, hCq⟩ := hI.hq 9 _ 14 _ rfl rfl rfl (dp hdep 1 rfl rfl)
      exact hI.cq hD hls rfl rfl rfl 71 #[.tmp 9, .tmp 14] _ rfl #[.agg ap, .agg aq] (by simp [eval_of hvp, eval_of hvq]) (run_enter Tryd.func71 (by kernel_rfl) (by kernel_rfl)) (.val (.bool false)) rfl rfl ((equalE hCp hCq).mono fun _ _ h => ret_val (ret_b h hc)) hK'
    · obtain rfl := Option.some.inj ho
      obtain ⟨vp, hvp, rfl⟩ := hI.hq 10 _ 15 _ rfl rfl rfl (dp hdep 0 rfl rfl)
      exact hI.pq hD hls rfl rfl rfl _ (run_moveQ (.inl rfl) (eval_of hvp) wn) (.val (.bool false)) rfl rfl rfl hK'
    · obtain rfl := Option.some.inj ho
      obtain ⟨vg, hvg, rfl⟩ := hI.hq 11 _ 16 _ rfl rfl rfl (dp hdep 0 rfl rfl)
      exact hI.skipQ hD hls rfl (wanted_notQ rfl rfl rfl hvg rfl) rfl rfl rfl hK'
    · obtain rfl := Option.some.inj ho
      obtain ⟨vg, hvg, rfl⟩ := hI.hq 11 _ 16 _ rfl rfl rfl (dp hdep 1 rfl rfl)
      exact hI.skipQ hD hls rfl (wanted_notQ rfl rfl rfl hvg rfl) rfl rfl rfl hK'
    · obtain rfl := Option.some.inj ho
      obtain ⟨vg, hvg, rfl⟩ := hI.hq 11 _ 16 _ rfl rfl rfl (dp hdep 0 rfl rfl)
      exact hI.skipQ hD hls rfl (wanted_notQ rfl rfl rfl hvg rfl) rfl rfl rfl hK'
    · obtain rfl := Option.some.inj ho
      obtain ⟨vg, hvg, rfl⟩ := hI.hq 11 _ 16 _ rfl rfl rfl (dp hdep 1 rfl rfl)
      exact hI.skipQ hD hls rfl (wanted_notQ rfl rfl rfl hvg rfl) rfl rfl rfl hK'
    · obtain rfl := Option.some.inj ho
      obtain ⟨vg, hvg, rfl⟩ := hI.hq 11 _ 16 _ rfl rfl rfl (dp hdep 3 rfl rfl)
      exact hI.skipQ hD hls rfl (wanted_notQ rfl rfl rfl hvg rfl) rfl rfl rfl hK'
    · obtain rfl := Option.some.inj ho
      obtain ⟨vg, hvg, rfl⟩ := hI.hq 11 _ 16 _ rfl rfl rfl (dp hdep 0 rfl rfl)
      exact hI.skipQ hD hls rfl (wanted_notQ rfl rfl rfl hvg rfl) rfl rfl rfl hK'
    · obtain rfl := Option.some.inj ho
      obtain ⟨vg, hvg, rfl⟩ := hI.hq 11 _ 16 _ rfl rfl rfl (dp hdep 1 rfl rfl)
      exact hI.skipQ hD hls rfl (wanted_notQ rfl rfl rfl hvg rfl) rfl rfl rfl hK'
    · obtain rfl := Option.some.inj ho
      obtain ⟨vg, hvg, rfl⟩ := hI.hq 11 _ 16 _ rfl rfl rfl (dp hdep 0 rfl rfl)
      exact hI.skipQ hD hls rfl (wanted_notQ rfl rfl rfl hvg rfl) rfl rfl rfl hK'
    · obtain rfl := Option.some.inj ho
      obtain ⟨vg, hvg, rfl⟩ := hI.hq 11 _ 16 _ rfl rfl rfl (dp hdep 1 rfl rfl)
      exact hI.skipQ hD hls rfl (wanted_notQ rfl rfl rfl hvg rfl) rfl rfl rfl hK'
    · obtain rfl := Option.some.inj ho
      obtain ⟨vg, hvg, rfl⟩ := hI.hq 11 _ 16 _ rfl rfl rfl (dp hdep 3 rfl rfl)
      exact hI.skipQ hD hls rfl (wanted_notQ rfl rfl rfl hvg rfl) rfl rfl rfl hK'
    · obtain rfl := Option.some.inj ho
      obtain ⟨vg, hvg, rfl⟩ := hI.hq 11 _ 16 _ rfl rfl rfl (dp hdep 3 rfl rfl)
      exact hI.skipQ hD hls rfl (wanted_notQ rfl rfl rfl hvg rfl) rfl rfl rfl hK'
    · obtain rfl := Option.some.inj ho
      obtain ⟨vp, hvp, rfl⟩ := hI.hq 11 _ 16 _ rfl rfl rfl (dp hdep 0 rfl rfl)
      exact hI.pq hD hls rfl rfl rfl _ (run_pickF rfl (eval_of hvp) (show an.eval (.const (.bool false)) = .bool false from rfl) wn) (.val (.bool false)) rfl rfl rfl hK'
    · obtain rfl := Option.some.inj ho
      obtain ⟨vp, hvp, rfl⟩ := hI.hq 23 _ 28 _ rfl rfl rfl (dp hdep 0 rfl rfl)
      exact hI.pq hD hls rfl rfl rfl _ (run_moveQ (.inr rfl) (eval_of hvp) wn) (.val (.bool false)) rfl rfl rfl hK'
  intro fuel an w2 hf hI
  obtain ⟨vr1_0, hvr1_0, rfl⟩ := hI.hq 0 _ 5 _ rfl rfl rfl rfl
  obtain ⟨vr1_1, hvr1_1, rfl⟩ := hI.hq 1 _ 6 _ rfl rfl rfl rfl
  obtain ⟨vr1_2, hvr1_2, rfl⟩ := hI.hq 2 _ 7 _ rfl rfl rfl rfl
  obtain ⟨vr1_3, hvr1_3, rfl⟩ := hI.hq 3 _ 8 _ rfl rfl rfl rfl
  obtain ⟨vr1_4, hvr1_4, ar1_4, rfl, hCr1_4⟩ := hI.hq 4 _ 9 _ rfl rfl rfl rfl
  obtain ⟨vr1_5, hvr1_5, rfl⟩ := hI.hq 5 _ 10 _ rfl rfl rfl rfl
  obtain ⟨vr1_6, hvr1_6, rfl⟩ := hI.hq 6 _ 11 _ rfl rfl rfl rfl
  obtain ⟨vr1_7, hvr1_7, rfl⟩ := hI.hq 7 _ 12 _ rfl rfl rfl rfl
  obtain ⟨vr1_8, hvr1_8, rfl⟩ := hI.hq 8 _ 13 _ rfl rfl rfl rfl
  obtain ⟨vr1_9, hvr1_9, ar1_9, rfl, hCr1_9⟩ := hI.hq 9 _ 14 _ rfl rfl rfl rfl
  obtain ⟨vr1_10, hvr1_10, rfl⟩ := hI.hq 10 _ 15 _ rfl rfl rfl rfl
  obtain ⟨vr1_11, hvr1_11, rfl⟩ := hI.hq 11 _ 16 _ rfl rfl rfl rfl
  obtain ⟨vr1_12, hvr1_12, rfl⟩ := hI.hq 12 _ 17 _ rfl rfl rfl rfl
  obtain ⟨vr1_13, hvr1_13, rfl⟩ := hI.hq 13 _ 18 _ rfl rfl rfl rfl
  obtain ⟨vr1_14, hvr1_14, rfl⟩ := hI.hq 14 _ 19 _ rfl rfl rfl rfl
  obtain ⟨vr1_15, hvr1_15, rfl⟩ := hI.hq 15 _ 20 _ rfl rfl rfl rfl
  obtain ⟨vr1_16, hvr1_16, rfl⟩ := hI.hq 16 _ 21 _ rfl rfl rfl rfl
  obtain ⟨vr1_17, hvr1_17, rfl⟩ := hI.hq 17 _ 22 _ rfl rfl rfl rfl
  obtain ⟨vr1_18, hvr1_18, rfl⟩ := hI.hq 18 _ 23 _ rfl rfl rfl rfl
  obtain ⟨vr1_19, hvr1_19, rfl⟩ := hI.hq 19 _ 24 _ rfl rfl rfl rfl
  obtain ⟨vr1_20, hvr1_20, rfl⟩ := hI.hq 20 _ 25 _ rfl rfl rfl rfl
  obtain ⟨vr1_21, hvr1_21, rfl⟩ := hI.hq 21 _ 26 _ rfl rfl rfl rfl
  obtain ⟨vr1_22, hvr1_22, rfl⟩ := hI.hq 22 _ 27 _ rfl rfl rfl rfl
  obtain ⟨vr1_23, hvr1_23, rfl⟩ := hI.hq 23 _ 28 _ rfl rfl rfl rfl
  obtain ⟨vr1_24, hvr1_24, rfl⟩ := hI.hq 24 _ 4 _ rfl rfl rfl rfl
  have hupd := hI.upd
  have ha := hI.act [(5, .pointer (some ⟨br0_0, 0 + 0, none⟩)), (6, .agg (zr0_0.extract (0 + 0) (0 + 0 + 5))), (7, .pointer (some ⟨br0_1, 0 + 10, none⟩)), (8, .agg (zr0_1.extract (0 + 10) (0 + 10 + 5))), (9, .agg ar1_4), (10, .pointer (some ⟨br0_1, 0 + 0, none⟩)), (11, .agg (zr0_1.extract (0 + 0) (0 + 0 + 5))), (12, .pointer (some ⟨br0_0, 0 + 10, none⟩)), (13, .agg (zr0_0.extract (0 + 10) (0 + 10 + 5))), (14, .agg ar1_9), (15, .bool false), (16, .bool false), (17, undef), (18, undef), (19, undef), (20, undef), (21, undef), (22, undef), (23, undef), (24, undef), (25, undef), (26, undef), (27, undef), (28, .bool false), (4, .bool false)] (by simp [hvr1_0, hvr1_1, hvr1_2, hvr1_3, hvr1_4, hvr1_5, hvr1_6, hvr1_7, hvr1_8, hvr1_9, hvr1_10, hvr1_11, hvr1_12, hvr1_13, hvr1_14, hvr1_15, hvr1_16, hvr1_17, hvr1_18, hvr1_19, hvr1_20, hvr1_21, hvr1_22, hvr1_23, hvr1_24]) (by kernel_rfl)
  clear hI hvr1_0 hvr1_1 hvr1_2 hvr1_3 hvr1_4 hvr1_5 hvr1_6 hvr1_7 hvr1_8 hvr1_9 hvr1_10 hvr1_11 hvr1_12 hvr1_13 hvr1_14 hvr1_15 hvr1_16 hvr1_17 hvr1_18 hvr1_19 hvr1_20 hvr1_21 hvr1_22 hvr1_23 hvr1_24
  subst ha
  simp only [List.foldl_cons, List.foldl_nil, List.setIfInBounds_toArray, List.set_cons_zero, List.set_cons_succ]
  have Bxr0y0_1 := hupd.keepD Bxr0y0
  have Bxr0y1_1 := hupd.keepD Bxr0y1
  have HU1 := hh (HU0.out.drew.trans hupd)
  clear hupd
  refine wpAny_done (by kernel_rfl) ?_ _
  refine hK1 _ _ ?_
  clear hK1
  refine wp_ret ?_
  try dsimp only [Exit.then]
  try dsimp only [Exit.inBlock]
  exact bodyPost_ret (v := .bool false) (results_tmpQ (fn := Tryd.f31) (t := 4) rfl _ _ (.bool false) rfl) rfl ⟨rfl, HU1.out⟩
theorem equalP {x1 y1 z1 t1 x2 y2 z2 t2 : Fp} {a b : Array Value} (w : World) (ha : Ch 5 RE [x1, y1, z1, t1] a) (hb : Ch 5 RE [x2, y2, z2, t2] b) :
    Calls Tryd.prog 31 #[.agg a, .agg b] w fun e w' => e = .returned (.bool (decide (x1 * z2 = x2 * z1) && decide (y1 * z2 = y2 * z1))) ∧ Upd (fun _ => False) w w' := by
  cases hc : decide (x1 * z2 = x2 * z1) with
  | true => exact equalPtrue w ha hb hc
  | false => exact equalPfalse w ha hb hc
set_option maxHeartbeats 4000000 in
theorem encodeP {x1 y1 z1 t1 : Fp} {a : Array Value} (w : World) (ha : Ch 5 RE [x1, y1, z1, t1] a) :
    Calls Tryd.prog 26 #[.agg a] w fun e w' => e = .returned (.agg (numsA .u8 (encL (x1 * finv z1) (y1 * finv z1)))) ∧ Upd (fun _ => False) w w' := by
  have HU := hh (Upd.refl (fun _ => False) w)
  go_enter Tryd.func26, Tryd.ntmps26
  refine wp_seq_k fun K0 hK0 => ?_
  refine wp_region_qSD 2 #[true, true] [] ([.blk ptrTo 41 (Ch 5 RE [x1, y1, z1, t1]), .blk ptrTo 23 (fun z => z = numsA .u8 zeroKL)] : List SQ) (by kernel_rfl) (by kernel_rfl) (by kernel_rfl) (by kernel_rfl) ?_ ?_
  · intro i o listed an wn ho hls hst hun hdep hI hD hpre K' hK'
    rcases slot_cases (l := [0, 1]) rfl ho hst with rfl | rfl | ⟨⟨⟩⟩
    · obtain rfl := Option.some.inj ho
      have hvp : an.eval (.tmp 0) = .agg a := hI.oq (by kernel_rfl) rfl
      exact hI.newQ hD hls (Nat.le_refl _) (newsQ_spec (l := [0, 1]) (by kernel_rfl) ⟨⟨_, _, rfl⟩, ⟨_, _, rfl⟩, trivial⟩) rfl rfl rfl 41 a _ (run_boxQ rfl hvp wn) rfl ha hK'
    · obtain rfl := Option.some.inj ho
      exact hI.newQ hD hls (Nat.le_refl _) (newsQ_spec (l := [0, 1]) (by kernel_rfl) ⟨⟨_, _, rfl⟩, ⟨_, _, rfl⟩, trivial⟩) rfl rfl rfl 23 _ (fun z => z = numsA .u8 zeroKL) (run_allocQ rfl zeroK_run wn) rfl rfl hK'
  intro an w1 hI
  obtain ⟨vr0_0, hvr0_0, br0_0, zr0_0, rfl, hnr0_0, hbr0_0, hzr0_0⟩ := hI.hq 0 _ 1 _ rfl rfl rfl rfl
  obtain ⟨vr0_1, hvr0_1, br0_1, zr0_1, rfl, hnr0_1, hbr0_1, hzr0_1⟩ := hI.hq 1 _ 2 _ rfl rfl rfl rfl
  rw [hzr0_1] at hbr0_1
  clear hzr0_1
  have hupd := hI.upd
  have hner0_0_r0_1 := hh (show br0_0 ≠ br0_1 from fun e => hI.apart 0 1 _ _ 1 2 (by omega) rfl rfl rfl rfl rfl rfl rfl rfl (by rw [hvr0_0, hvr0_1, e]))
  have ha := hI.act [(1, ptrTo br0_0), (2, ptrTo br0_1)] (by simp [hvr0_0, hvr0_1]) (by kernel_rfl)
  clear hI hvr0_0 hvr0_1
  subst ha
  simp only [List.foldl_cons, List.foldl_nil, List.setIfInBounds_toArray, List.set_cons_zero, List.set_cons_succ]
  have hger0_0 := geB HU hnr0_0
  have hger0_1 := geB HU hnr0_1
  have Bxr0y0 := hh hbr0_0
  have Bxr0y1 := hh hbr0_1
  have HU0 := hh (HU.out.trans hupd)
  clear hupd
  refine wpOps_nil ?_
  refine hK0 _ _ ?_
  clear hK0
  refine wp_seq_k fun K1 hK1 => ?_
  refine wp_region_qSD 4 #[true, true, true, true, false] [4] ([.val (.pointer (some ⟨br0_0, 0 + 10, none⟩)), .val (.agg (zr0_0.extract (0 + 10) (0 + 10 + 5))), .like (IsC 5 RE [finv z1]), .blk ptrTo 39 (Ch 5 RE [0]), .val undef] : List SQ) (by kernel_rfl) (by kernel_rfl) (by kernel_rfl) (by kernel_rfl) ?_ ?_
  · intro i o listed an wn ho hls hst hun hdep hI hD hpre K' hK'
    rcases slot_cases (l := [0, 1, 2, 3]) rfl ho hst with rfl | rfl | rfl | rfl | ⟨⟨⟩⟩
    · obtain rfl := Option.some.inj ho
      have hvp : an.eval (.tmp 1) = ptrTo br0_0 := hI.oq (by kernel_rfl) rfl
      exact hI.pq hD hls rfl rfl rfl _ (run_fieldQ (g := br0_0) (off := 0) (k := 10) rfl hvp Tryd.underlying41 rfl (by rfl) szE wn) (.val (.pointer (some ⟨br0_0, 0 + 10, none⟩))) rfl rfl rfl hK'
    · obtain rfl := Option.some.inj ho
      obtain ⟨vp, hvp, rfl⟩ := hI.hq 0 _ 5 _ rfl rfl rfl (dp hdep 0 rfl rfl)
      exact hI.pq hD hls rfl rfl rfl _ (run_loadQ rfl (eval_of hvp) wn (hI.upd.keep Bxr0y0).out Tryd.underlying39 rfl szE (by rw [hzr0_0.size]; exact Nat.le_of_ble_eq_true rfl)) (.val (.agg (zr0_0.extract (0 + 10) (0 + 10 + 5)))) rfl rfl rfl hK'
    · obtain rfl := Option.some.inj ho
      obtain ⟨vp, hvp, rfl⟩ := hI.hq 1 _ 6 _ rfl rfl rfl (dp hdep 0 rfl rfl)
      exact hI.cq hD hls rfl rfl rfl 47 #[.tmp 6] _ rfl #[.agg (zr0_0.extract (0 + 10) (0 + 10 + 5))] (by simp [eval_of hvp]) (run_enter Tryd.func47 (by kernel_rfl) (by kernel_rfl)) (.like (IsC 5 RE [finv z1])) rfl rfl ((invE (hzr0_0.at 2 (0 + 10) rfl rfl)).mono fun _ _ h => h.sq) hK'
    · obtain rfl := Option.some.inj ho
      exact hI.newQ hD hls (Nat.le_refl _) (newsQ_spec (l := [3]) (by kernel_rfl) ⟨⟨_, _, rfl⟩, trivial⟩) rfl rfl rfl 39 zE _ (run_allocQ rfl zE_run wn) rfl zE_ch hK'
  intro an w2 hI
  obtain ⟨vr1_0, hvr1_0, rfl⟩ := hI.hq 0 _ 5 _ rfl rfl rfl rfl
  obtain ⟨vr1_1, hvr1_1, rfl⟩ := hI.hq 1 _ 6 _ rfl rfl rfl rfl
  obtain ⟨vr1_2, hvr1_2, ar1_2, rfl, hCr1_2⟩ := hI.hq 2 _ 7 _ rfl rfl rfl rfl
  obtain ⟨vr1_3, hvr1_3, br1_3, zr1_3, rfl, hnr1_3, hbr1_3, hzr1_3⟩ := hI.hq 3 _ 3 _ rfl rfl rfl rfl
  have hupd := hI.upd
  have ha := hI.act [(5, .pointer (some ⟨br0_0, 0 + 10, none⟩)), (6, .agg (zr0_0.extract (0 + 10) (0 + 10 + 5))), (7, .agg ar1_2), (3, ptrTo br1_3)] (by simp [hvr1_0, hvr1_1, hvr1_2, hvr1_3]) (by kernel_rfl)
  clear hI hvr1_0 hvr1_1 hvr1_2 hvr1_3
  subst ha
  simp only [List.foldl_cons, List.foldl_nil, List.setIfInBounds_toArray, List.set_cons_zero, List.set_cons_succ]
  have hner1_3_Bxr0y0 := apartB Bxr0y0 hnr1_3
  have hner1_3_Bxr0y1 := apartB Bxr0y1 hnr1_3
  have hger1_3 := geB HU0 hnr1_3
  have Bxr0y0_1 := hupd.keep Bxr0y0
  have Bxr0y1_1 := hupd.keep Bxr0y1
  have Bxr1y3 := hh hbr1_3
  have HU1 := hh (HU0.out.trans hupd)
  clear hupd
  refine wpOps_storeQ 4 rfl rfl rfl 39 (.tmp 3) (.tmp 7) rfl br1_3 0 5 rfl ar1_2 rfl 39 zr1_3 Bxr1y3.out szE hCr1_2.size (by rw [hzr1_3.size]; exact Nat.le_of_ble_eq_true rfl) hCr1_2.one' ?_
  intro ws1_0 hs1_0 hus1_0
  rw [splice_all _ _ 5 hzr1_3.size hCr1_2.size] at hs1_0
  have Bxr0y0_s1_0 := hus1_0.keepS Bxr0y0_1 (fun e => hner1_3_Bxr0y0.out e.symm)
  have Bxr0y1_s1_0 := hus1_0.keepS Bxr0y1_1 (fun e => hner1_3_Bxr0y1.out e.symm)
  have Bxr1y3_s1_0 := hh hs1_0
  have HU1_0 := hh (HU1.out.step hus1_0 (fun i hi h => absurd hi (Nat.not_lt.2 (h.symm ▸ hger1_3.out))))
  clear hs1_0 hus1_0
  refine wpOps_nil ?_
  refine hK1 _ _ ?_
  clear hK1
  refine wp_seq_k fun K2 hK2 => ?_
  refine wp_region_qSD 6 #[true, true, true, true, true, true, false] [6] ([.val (.pointer (some ⟨br0_0, 0 + 5, none⟩)), .val (.agg (zr0_0.extract (0 + 5) (0 + 5 + 5))), .val (.agg ar1_2), .like (IsC 5 RE [y1 * (finv z1)]), .val (.agg (numsA .u8 (keyOf (y1 * (finv z1))))), .blk ptrTo 23 (fun z => z = numsA .u8 zeroKL), .val undef] : List SQ) (by kernel_rfl) (by kernel_rfl) (by kernel_rfl) (by kernel_rfl) ?_ ?_
  · intro i o listed an wn ho hls hst hun hdep hI hD hpre K' hK'
    rcases slot_cases (l := [0, 1, 2, 3, 4, 5]) rfl ho hst with rfl | rfl | rfl | rfl | rfl | rfl | ⟨⟨⟩⟩
    · obtain rfl := Option.some.inj ho
      have hvp : an.eval (.tmp 1) = ptrTo br0_0 := hI.oq (by kernel_rfl) rfl
      exact hI.pq hD hls rfl rfl rfl _ (run_fieldQ (g := br0_0) (off := 0) (k := 5) rfl hvp Tryd.underlying41 rfl (by rfl) szE wn) (.val (.pointer (some ⟨br0_0, 0 + 5, none⟩))) rfl rfl rfl hK'
    · obtain rfl := Option.some.inj ho
      obtain ⟨vp, hvp, rfl⟩ := hI.hq 0 _ 8 _ rfl rfl rfl (dp hdep 0 rfl rfl)
      exact hI.pq hD hls rfl rfl rfl _ (run_loadQ rfl (eval_of hvp) wn (hI.upd.keep Bxr0y0_s1_0).out Tryd.underlying39 rfl szE (by rw [hzr0_0.size]; exact Nat.le_of_ble_eq_true rfl)) (.val (.agg (zr0_0.extract (0 + 5) (0 + 5 + 5)))) rfl rfl rfl hK'
    · obtain rfl := Option.some.inj ho
      have hvp : an.eval (.tmp 3) = ptrTo br1_3 := hI.oq (by kernel_rfl) rfl
      exact hI.pq hD hls rfl rfl rfl _ (run_loadQ rfl hvp wn (hI.upd.keep Bxr1y3_s1_0).out Tryd.underlying39 rfl szE (by rw [hCr1_2.size]; exact Nat.le_of_ble_eq_true rfl)) (.val (.agg ar1_2)) rfl (congrArg Value.agg (extract_all _ 5 hCr1_2.size)) rfl hK'
    · obtain rfl := Option.some.inj ho
      obtain ⟨vp, hvp, rfl⟩ := hI.hq 1 _ 9 _ rfl rfl rfl (dp hdep 0 rfl rfl)
      obtain ⟨vq, hvq, rfl⟩ := hI.hq 2 _ 10 _ rfl rfl rfl (dp hdep 1 rfl rfl)
      exact hI.cq hD hls rfl rfl rfl 44 #[.tmp 9, .tmp 10] _ rfl #[.agg (zr0_0.extract (0 + 5) (0 + 5 + 5)), .agg ar1_2] (by simp [eval_of hvp, eval_of hvq]) (run_enter Tryd.func44 (by kernel_rfl) (by kernel_rfl)) (.like (IsC 5 RE [y1 * (finv z1)])) rfl rfl ((mulE (hzr0_0.at 1 (0 + 5) rfl rfl) hCr1_2).mono fun _ _ h => h.sq) hK'
    · obtain rfl := Option.some.inj ho
      obtain ⟨vp, hvp, ap, rfl, hCp⟩ := hI.hq 3 _ 11 _ rfl rfl rfl (dp hdep 0 rfl rfl)
      exact hI.cq hD hls rfl rfl rfl 48 #[.tmp 11] _ rfl #[.agg ap] (by simp [eval_of hvp]) (run_enter Tryd.func48 (by kernel_rfl) (by kernel_rfl)) (.val (.agg (numsA .u8 (keyOf (y1 * (finv z1)))))) rfl rfl ((bytesE hCp).mono fun _ _ h => ret_val h) hK'
    · obtain rfl := Option.some.inj ho
      exact hI.newQ hD hls (Nat.le_refl _) (newsQ_spec (l := [5]) (by kernel_rfl) ⟨⟨_, _, rfl⟩, trivial⟩) rfl rfl rfl 23 _ (fun z => z = numsA .u8 zeroKL) (run_allocQ rfl zeroK_run wn) rfl rfl hK'
  intro an w3 hI
  obtain ⟨vr2_0, hvr2_0, rfl⟩ := hI.hq 0 _ 8 _ rfl rfl rfl rfl
  obtain ⟨vr2_1, hvr2_1, rfl⟩ := hI.hq 1 _ 9 _ rfl rfl rfl rfl
  obtain ⟨vr2_2, hvr2_2, rfl⟩ := hI.hq 2 _ 10 _ rfl rfl rfl rfl
  obtain ⟨vr2_3, hvr2_3, ar2_3, rfl, hCr2_3⟩ := hI.hq 3 _ 11 _ rfl rfl rfl rfl
  obtain ⟨vr2_4, hvr2_4, rfl⟩ := hI.hq 4 _ 12 _ rfl rfl rfl rfl
  obtain ⟨vr2_5, hvr2_5, br2_5, zr2_5, rfl, hnr2_5, hbr2_5, hzr2_5⟩ := hI.hq 5 _ 4 _ rfl rfl rfl rfl
  rw [hzr2_5] at hbr2_5
  clear hzr2_5
  have hupd := hI.upd
  have ha := hI.act [(8, .pointer (some ⟨br0_0, 0 + 5, none⟩)), (9, .agg (zr0_0.extract (0 + 5) (0 + 5 + 5))), (10, .agg ar1_2), (11, .agg ar2_3), (12, .agg (numsA .u8 (keyOf (y1 * (finv z1))))), (4, ptrTo br2_5)] (by simp [hvr2_0, hvr2_1, hvr2_2, hvr2_3, hvr2_4, hvr2_5]) (by kernel_rfl)
  clear hI hvr2_0 hvr2_1 hvr2_2 hvr2_3 hvr2_4 hvr2_5
  subst ha
  simp only [List.foldl_cons, List.foldl_nil, List.setIfInBounds_toArray, List.set_cons_zero, List.set_cons_succ]
  have hner2_5_Bxr0y0_s1_0 := apartB Bxr0y0_s1_0 hnr2_5
  have hner2_5_Bxr0y1_s1_0 := apartB Bxr0y1_s1_0 hnr2_5
  have hner2_5_Bxr1y3_s1_0 := apartB Bxr1y3_s1_0 hnr2_5
  have hger2_5 := geB HU1_0 hnr2_5
  have Bxr0y0_2 := hupd.keep Bxr0y0_s1_0
  have Bxr0y1_2 := hupd.keep Bxr0y1_s1_0
  have Bxr1y3_2 := hupd.keep Bxr1y3_s1_0
  have Bxr2y5 := hh hbr2_5
  have HU2 := hh (HU1_0.out.trans hupd)
  clear hupd
  refine wpOps_storeQ 6 rfl rfl rfl 23 (.tmp 4) (.tmp 12) rfl br2_5 0 32 rfl (numsA .u8 (keyOf (y1 * (finv z1)))) rfl 23 (numsA .u8 zeroKL) Bxr2y5.out sizeKey (by rw [numsA_size]; exact keyOf_length _) (by rw [(show (numsA _ _).size = 32 by rw [numsA_size]; exact zeroKL_length)]; exact Nat.le_of_ble_eq_true rfl) (numsA_one _ _) ?_
  intro ws2_0 hs2_0 hus2_0
  rw [splice_all _ _ 32 (show (numsA _ _).size = 32 by rw [numsA_size]; exact zeroKL_length) (by rw [numsA_size]; exact keyOf_length _)] at hs2_0
  have Bxr0y0_s2_0 := hus2_0.keepS Bxr0y0_2 (fun e => hner2_5_Bxr0y0_s1_0.out e.symm)
  have Bxr0y1_s2_0 := hus2_0.keepS Bxr0y1_2 (fun e => hner2_5_Bxr0y1_s1_0.out e.symm)
  have Bxr1y3_s2_0 := hus2_0.keepS Bxr1y3_2 (fun e => hner2_5_Bxr1y3_s1_0.out e.symm)
  have Bxr2y5_s2_0 := hh hs2_0
  have HU2_0 := hh (HU2.out.step hus2_0 (fun i hi h => absurd hi (Nat.not_lt.2 (h.symm ▸ hger2_5.out))))
  clear hs2_0 hus2_0
  refine wpOps_nil ?_
  refine hK2 _ _ ?_
  clear hK2
  refine wp_seq_k fun K3 hK3 => ?_
  refine wp_seq_k fun K4 hK4 => ?_
  refine wp_region_qSD 5 #[true, true, true, true, true] [] ([.val (.pointer (some ⟨br0_0, 0 + 0, none⟩)), .val (.agg (zr0_0.extract (0 + 0) (0 + 0 + 5))), .val (.agg ar1_2), .like (IsC 5 RE [x1 * (finv z1)]), .val (.bool (decide ((x1 * (finv z1)).val % 2 = 1)))] : List SQ) (by kernel_rfl) (by kernel_rfl) (by kernel_rfl) (by kernel_rfl) ?_ ?_
  · intro i o listed an wn ho hls hst hun hdep hI hD hpre K' hK'
    rcases slot_cases (l := [0, 1, 2, 3, 4]) rfl ho hst with rfl | rfl | rfl | rfl | rfl | ⟨⟨⟩⟩
    · obtain rfl := Option.some.inj ho
      have hvp : an.eval (.tmp 1) = ptrTo br0_0 := hI.oq (by kernel_rfl) rfl
      exact hI.pq hD hls rfl rfl rfl _ (run_fieldQ (g := br0_0) (off := 0) (k := 0) rfl hvp Tryd.underlying41 rfl (by rfl) szE wn) (.val (.pointer (some ⟨br0_0, 0 + 0, none⟩))) rfl rfl rfl hK'
    · obtain rfl := Option.some.inj ho
      obtain ⟨vp, hvp, rfl⟩ := hI.hq 0 _ 13 _ rfl rfl rfl (dp hdep 0 rfl rfl)
      exact hI.pq hD hls rfl rfl rfl _ (run_loadQ rfl (eval_of hvp) wn (hI.upd.keep Bxr0y0_s2_0).out Tryd.underlying39 rfl szE (by rw [hzr0_0.size]; exact Nat.le_of_ble_eq_true rfl)) (.val (.agg (zr0_0.extract (0 + 0) (0 + 0 + 5)))) rfl rfl rfl hK'
    · obtain rfl := Option.some.inj ho
      have hvp : an.eval (.tmp 3) = ptrTo br1_3 := hI.oq (by kernel_rfl) rfl
      exact hI.pq hD hls rfl rfl rfl _ (run_loadQ rfl hvp wn (hI.upd.keep Bxr1y3_s2_0).out Tryd.underlying39 rfl szE (by rw [hCr1_2.size]; exact Nat.le_of_ble_eq_true rfl)) (.val (.agg ar1_2)) rfl (congrArg Value.agg (extract_all _ 5 hCr1_2.size)) rfl hK'
    · obtain rfl := Option.some.inj ho
      obtain ⟨vp, hvp, rfl⟩ := hI.hq 1 _ 14 _ rfl rfl rfl (dp hdep 0 rfl rfl)
      obtain ⟨vq, hvq, rfl⟩ := hI.hq 2 _ 15 _ rfl rfl rfl (dp hdep 1 rfl rfl)
      exact hI.cq hD hls rfl rfl rfl 44 #[.tmp 14, .tmp 15] _ rfl #[.agg (zr0_0.extract (0 + 0) (0 + 0 + 5)), .agg ar1_2] (by simp [eval_of hvp, eval_of hvq]) (run_enter Tryd.func44 (by kernel_rfl) (by kernel_rfl)) (.like (IsC 5 RE [x1 * (finv z1)])) rfl rfl ((mulE (hzr0_0.at 0 (0 + 0) rfl rfl) hCr1_2).mono fun _ _ h => h.sq) hK'
    · obtain rfl := Option.some.inj ho
      obtain ⟨vp, hvp, ap, rfl, hCp⟩ := hI.hq 3 _ 16 _ rfl rfl rfl (dp hdep 0 rfl rfl)
      exact hI.cq hD hls rfl rfl rfl 69 #[.tmp 16] _ rfl #[.agg ap] (by simp [eval_of hvp]) (run_enter Tryd.func69 (by kernel_rfl) (by kernel_rfl)) (.val (.bool (decide ((x1 * (finv z1)).val % 2 = 1)))) rfl rfl ((oddE hCp).mono fun _ _ h => ret_val h) hK'
  intro an w4 hI
  obtain ⟨vr3_0, hvr3_0, rfl⟩ := hI.hq 0 _ 13 _ rfl rfl rfl rfl
  obtain ⟨vr3_1, hvr3_1, rfl⟩ := hI.hq 1 _ 14 _ rfl rfl rfl rfl
  obtain ⟨vr3_2, hvr3_2, rfl⟩ := hI.hq 2 _ 15 _ rfl rfl rfl rfl
  obtain ⟨vr3_3, hvr3_3, ar3_3, rfl, hCr3_3⟩ := hI.hq 3 _ 16 _ rfl rfl rfl rfl
  obtain ⟨vr3_4, hvr3_4, rfl⟩ := hI.hq 4 _ 17 _ rfl rfl rfl rfl
  have hupd := hI.upd
  have ha := hI.act [(13, .pointer (some ⟨br0_0, 0 + 0, none⟩)), (14, .agg (zr0_0.extract (0 + 0) (0 + 0 + 5))), (15, .agg ar1_2), (16, .agg ar3_3), (17, .bool (decide ((x1 * (finv z1)).val % 2 = 1)))] (by simp [hvr3_0, hvr3_1, hvr3_2, hvr3_3, hvr3_4]) (by kernel_rfl)
  clear hI hvr3_0 hvr3_1 hvr3_2 hvr3_3 hvr3_4
  subst ha
  simp only [List.foldl_cons, List.foldl_nil, List.setIfInBounds_toArray, List.set_cons_zero, List.set_cons_succ]
  have Bxr0y0_3 := hupd.keep Bxr0y0_s2_0
  have Bxr0y1_3 := hupd.keep Bxr0y1_s2_0
  have Bxr1y3_3 := hupd.keep Bxr1y3_s2_0
  have Bxr2y5_3 := hupd.keep Bxr2y5_s2_0
  have HU3 := hh (HU2_0.out.trans hupd)
  clear hupd
  refine wpOps_nil ?_
  refine hK4 _ _ ?_
  clear hK4
  refine wp_cond_split (t := (decide ((x1 * (finv z1)).val % 2 = 1))) rfl (fun hcd => ?_) (fun hcd => ?_)
  · have Hcd5 := hh hcd
    clear hcd
    refine wp_region_qSD 4 #[true, true, true, true, false] [4] ([.val (.pointer (some ⟨br2_5, 0 + 31, none⟩)), .val (.int .u8 ((keyOf (y1 * (finv z1))).getD 31 0)), .val (.int .u8 (bits .or .u8 ((keyOf (y1 * (finv z1))).getD 31 0) 128)), .val (.pointer (some ⟨br2_5, 0 + 31, none⟩)), .val undef] : List SQ) (by kernel_rfl) (by kernel_rfl) (by kernel_rfl) (by kernel_rfl) ?_ ?_
    · intro i o listed an wn ho hls hst hun hdep hI hD hpre K' hK'
      rcases slot_cases (l := [0, 1, 2, 3]) rfl ho hst with rfl | rfl | rfl | rfl | ⟨⟨⟩⟩
      · obtain rfl := Option.some.inj ho
        have hvp : an.eval (.tmp 4) = ptrTo br2_5 := hI.oq (by kernel_rfl) rfl
        exact hI.pq hD hls rfl rfl rfl _ (run_adr (off := 0) (i := 31) rfl Tryd.underlying23 size5 hvp rfl (by omega) wn) (.val (.pointer (some ⟨br2_5, 0 + 31, none⟩))) rfl rfl rfl hK'
      · obtain rfl := Option.some.inj ho
        obtain ⟨vp, hvp, rfl⟩ := hI.hq 0 _ 18 _ rfl rfl rfl (dp hdep 0 rfl rfl)
        exact hI.pq hD hls rfl rfl rfl _ (run_cellQ rfl Tryd.underlying5 (eval_of hvp) wn (hI.upd.keep Bxr2y5_3).out (by rw [Nat.zero_add]; exact numsA_get _ _ _ (by rw [keyOf_length _]; omega))) (.val (.int .u8 ((keyOf (y1 * (finv z1))).getD 31 0))) rfl rfl rfl hK'
      · obtain rfl := Option.some.inj ho
        obtain ⟨vp, hvp, rfl⟩ := hI.hq 1 _ 19 _ rfl rfl rfl (dp hdep 0 rfl rfl)
        exact hI.pq hD hls rfl rfl rfl _ (run_or8 rfl (eval_of hvp) rfl wn) (.val (.int .u8 (bits .or .u8 ((keyOf (y1 * (finv z1))).getD 31 0) 128))) rfl rfl rfl hK'
      · obtain rfl := Option.some.inj ho
        have hvp : an.eval (.tmp 4) = ptrTo br2_5 := hI.oq (by kernel_rfl) rfl
        exact hI.pq hD hls rfl rfl rfl _ (run_adr (off := 0) (i := 31) rfl Tryd.underlying23 size5 hvp rfl (by omega) wn) (.val (.pointer (some ⟨br2_5, 0 + 31, none⟩))) rfl rfl rfl hK'
    intro an w5 hI
    obtain ⟨vr4_0, hvr4_0, rfl⟩ := hI.hq 0 _ 18 _ rfl rfl rfl rfl
    obtain ⟨vr4_1, hvr4_1, rfl⟩ := hI.hq 1 _ 19 _ rfl rfl rfl rfl
    obtain ⟨vr4_2, hvr4_2, rfl⟩ := hI.hq 2 _ 20 _ rfl rfl rfl rfl
    obtain ⟨vr4_3, hvr4_3, rfl⟩ := hI.hq 3 _ 21 _ rfl rfl rfl rfl
    have hupd := hI.upd
    have ha := hI.act [(18, .pointer (some ⟨br2_5, 0 + 31, none⟩)), (19, .int .u8 ((keyOf (y1 * (finv z1))).getD 31 0)), (20, .int .u8 (bits .or .u8 ((keyOf (y1 * (finv z1))).getD 31 0) 128)), (21, .pointer (some ⟨br2_5, 0 + 31, none⟩))] (by simp [hvr4_0, hvr4_1, hvr4_2, hvr4_3]) (by kernel_rfl)
    clear hI hvr4_0 hvr4_1 hvr4_2 hvr4_3
    subst ha
    simp only [List.foldl_cons, List.foldl_nil, List.setIfInBounds_toArray, List.set_cons_zero, List.set_cons_succ]
    have Bxr0y0_4 := hupd.keep Bxr0y0_3
    have Bxr0y1_4 := hupd.keep Bxr0y1_3
    have Bxr1y3_4 := hupd.keep Bxr1y3_3
    have Bxr2y5_4 := hupd.keep Bxr2y5_3
    have HU4 := hh (HU3.out.trans hupd)
    clear hupd
    refine wpOps_storeB 4 rfl rfl rfl 5 (.tmp 21) (.tmp 20) rfl size5 br2_5 (0 + 31) rfl (bits .or .u8 ((keyOf (y1 * (finv z1))).getD 31 0) 128) rfl 23 (keyOf (y1 * (finv z1))) Bxr2y5_4.out (by rw [keyOf_length _]; omega) ?_
    rw [Nat.zero_add]
    intro ws4_0 hs4_0 hus4_0
    have Bxr0y0_s4_0 := hus4_0.keepS Bxr0y0_4 (fun e => hner2_5_Bxr0y0_s1_0.out e.symm)
    have Bxr0y1_s4_0 := hus4_0.keepS Bxr0y1_4 (fun e => hner2_5_Bxr0y1_s1_0.out e.symm)
    have Bxr1y3_s4_0 := hus4_0.keepS Bxr1y3_4 (fun e => hner2_5_Bxr1y3_s1_0.out e.symm)
    have Bxr2y5_s4_0 := hh hs4_0
    have HU4_0 := hh (HU4.out.step hus4_0 (fun i hi h => absurd hi (Nat.not_lt.2 (h.symm ▸ hger2_5.out))))
    clear hs4_0 hus4_0
    refine wpOps_nil ?_
    refine hK3 _ _ ?_
    clear hK3
    refine wp_seq_k fun K6 hK6 => ?_
    refine wp_region_qSD 1 #[true, false] [1] ([.val (.agg (numsA .u8 ((keyOf (y1 * (finv z1))).set 31 (bits .or .u8 ((keyOf (y1 * (finv z1))).getD 31 0) 128)))), .val undef] : List SQ) (by kernel_rfl) (by kernel_rfl) (by kernel_rfl) (by kernel_rfl) ?_ ?_
    · intro i o listed an wn ho hls hst hun hdep hI hD hpre K' hK'
      rcases slot_cases (l := [0]) rfl ho hst with rfl | ⟨⟨⟩⟩
      · obtain rfl := Option.some.inj ho
        have hvp : an.eval (.tmp 4) = ptrTo br2_5 := hI.oq (by kernel_rfl) rfl
        exact hI.pq hD hls rfl rfl rfl _ (run_loadQ rfl hvp wn (hI.upd.keep Bxr2y5_s4_0).out Tryd.underlying23 rfl sizeKey (by rw [numsA_size, (set_length (keyOf_length _) _ _)]; omega)) (.val (.agg (numsA .u8 ((keyOf (y1 * (finv z1))).set 31 (bits .or .u8 ((keyOf (y1 * (finv z1))).getD 31 0) 128))))) rfl (congrArg Value.agg (extract_all _ 32 (by rw [numsA_size]; exact (set_length (keyOf_length _) _ _)))) rfl hK'
    intro an w6 hI
    obtain ⟨vr5_0, hvr5_0, rfl⟩ := hI.hq 0 _ 22 _ rfl rfl rfl rfl
    have hupd := hI.upd
    have ha := hI.act [(22, .agg (numsA .u8 ((keyOf (y1 * (finv z1))).set 31 (bits .or .u8 ((keyOf (y1 * (finv z1))).getD 31 0) 128))))] (by simp [hvr5_0]) (by kernel_rfl)
    clear hI hvr5_0
    subst ha
    simp only [List.foldl_cons, List.foldl_nil, List.setIfInBounds_toArray, List.set_cons_zero, List.set_cons_succ]
    have Bxr0y0_5 := hupd.keep Bxr0y0_s4_0
    have Bxr0y1_5 := hupd.keep Bxr0y1_s4_0
    have Bxr1y3_5 := hupd.keep Bxr1y3_s4_0
    have Bxr2y5_5 := hupd.keep Bxr2y5_s4_0
    have HU5 := hh (HU4_0.out.trans hupd)
    clear hupd
    refine wpOps_storeQ 1 rfl rfl rfl 23 (.tmp 2) (.tmp 22) rfl br0_1 0 32 rfl (numsA .u8 ((keyOf (y1 * (finv z1))).set 31 (bits .or .u8 ((keyOf (y1 * (finv z1))).getD 31 0) 128))) rfl 23 (numsA .u8 zeroKL) Bxr0y1_5.out sizeKey (by rw [numsA_size]; exact (set_length (keyOf_length _) _ _)) (by rw [(show (numsA _ _).size = 32 by rw [numsA_size]; exact zeroKL_length)]; exact Nat.le_of_ble_eq_true rfl) (numsA_one _ _) ?_
    intro ws5_0 hs5_0 hus5_0
    rw [splice_all _ _ 32 (show (numsA _ _).size = 32 by rw [numsA_size]; exact zeroKL_length) (by rw [numsA_size]; exact (set_length (keyOf_length _) _ _))] at hs5_0
    have Bxr0y0_s5_0 := hus5_0.keepS Bxr0y0_5 (fun e => hner0_0_r0_1.out e)
    have Bxr1y3_s5_0 := hus5_0.keepS Bxr1y3_5 (fun e => hner1_3_Bxr0y1.out e)
    have Bxr2y5_s5_0 := hus5_0.keepS Bxr2y5_5 (fun e => hner2_5_Bxr0y1_s1_0.out e)
    have Bxr0y1_s5_0 := hh hs5_0
    have HU5_0 := hh (HU5.out.step hus5_0 (fun i hi h => absurd hi (Nat.not_lt.2 (h.symm ▸ hger0_1.out))))
    clear hs5_0 hus5_0
    refine wpOps_nil ?_
    refine hK6 _ _ ?_
    clear hK6
    refine wp_ret ?_
    try dsimp only [Exit.then]
    try dsimp only [Exit.inBlock]
    exact bodyPost_ret (v := .agg (numsA .u8 ((keyOf (y1 * (finv z1))).set 31 (bits .or .u8 ((keyOf (y1 * (finv z1))).getD 31 0) 128)))) (results_cell_row (fn := Tryd.f26) (p := 2) (ty := 23) rfl _ _ br0_1 23 _ (0, 0) _ rfl Bxr0y1_s5_0.out Tryd.underlying23 rfl (by rw [numsA_size, (set_length (keyOf_length _) _ _)]; exact sizeKey)) rfl ⟨by rw [encL_t (of_decide_eq_true Hcd5.out)], HU5_0.out⟩
  have Hcd7 := hh hcd
  clear hcd
  refine wp_skip ?_
  refine hK3 _ _ ?_
  clear hK3
  refine wp_seq_k fun K8 hK8 => ?_
  refine wp_region_qSD 1 #[true, false] [1] ([.val (.agg (numsA .u8 (keyOf (y1 * (finv z1))))), .val undef] : List SQ) (by kernel_rfl) (by kernel_rfl) (by kernel_rfl) (by kernel_rfl) ?_ ?_
  · intro i o listed an wn ho hls hst hun hdep hI hD hpre K' hK'
    rcases slot_cases (l := [0]) rfl ho hst with rfl | ⟨⟨⟩⟩
    · obtain rfl := Option.some.inj ho
      have hvp : an.eval (.tmp 4) = ptrTo br2_5 := hI.oq (by kernel_rfl) rfl
      exact hI.pq hD hls rfl rfl rfl _ (run_loadQ rfl hvp wn (hI.upd.keep Bxr2y5_3).out Tryd.underlying23 rfl sizeKey (by rw [numsA_size, keyOf_length _]; omega)) (.val (.agg (numsA .u8 (keyOf (y1 * (finv z1)))))) rfl (congrArg Value.agg (extract_all _ 32 (by rw [numsA_size]; exact keyOf_length _))) rfl hK'
  intro an w7 hI
  obtain ⟨vr6_0, hvr6_0, rfl⟩ := hI.hq 0 _ 22 _ rfl rfl rfl rfl
  have hupd := hI.upd
  have ha := hI.act [(22, .agg (numsA .u8 (keyOf (y1 * (finv z1)))))] (by simp [hvr6_0]) (by kernel_rfl)
  clear hI hvr6_0
  subst ha
  simp only [List.foldl_cons, List.foldl_nil, List.setIfInBounds_toArray, List.set_cons_zero, List.set_cons_succ]
  have Bxr0y0_6 := hupd.keep Bxr0y0_3
  have Bxr0y1_6 := hupd.keep Bxr0y1_3
  have Bxr1y3_6 := hupd.keep Bxr1y3_3
  have Bxr2y5_6 := hupd.keep Bxr2y5_3
  have HU6 := hh (HU3.out.trans hupd)
  clear hupd
  refine wpOps_storeQ 1 rfl rfl rfl 23 (.tmp 2) (.tmp 22) rfl br0_1 0 32 rfl (numsA .u8 (keyOf (y1 * (finv z1)))) rfl 23 (numsA .u8 zeroKL) Bxr0y1_6.out sizeKey (by rw [numsA_size]; exact keyOf_length _) (by rw [(show (numsA _ _).size = 32 by rw [numsA_size]; exact zeroKL_length)]; exact Nat.le_of_ble_eq_true rfl) (numsA_one _ _) ?_
  intro ws6_0 hs6_0 hus6_0
  rw [splice_all _ _ 32 (show (numsA _ _).size = 32 by rw [numsA_size]; exact zeroKL_length) (by rw [numsA_size]; exact keyOf_length _)] at hs6_0
  have Bxr0y0_s6_0 := hus6_0.keepS Bxr0y0_6 (fun e => hner0_0_r0_1.out e)
  have Bxr1y3_s6_0 := hus6_0.keepS Bxr1y3_6 (fun e => hner1_3_Bxr0y1.out e)
  have Bxr2y5_s6_0 := hus6_0.keepS Bxr2y5_6 (fun e => hner2_5_Bxr0y1_s1_0.out e)
  have Bxr0y1_s6_0 := hh hs6_0
  have HU6_0 := hh (HU6.out.step hus6_0 (fun i hi h => absurd hi (Nat.not_lt.2 (h.symm ▸ hger0_1.out))))
  clear hs6_0 hus6_0
  refine wpOps_nil ?_
  refine hK8 _ _ ?_
  clear hK8
  refine wp_ret ?_
  try dsimp only [Exit.then]
  try dsimp only [Exit.inBlock]
  exact bodyPost_ret (v := .agg (numsA .u8 (keyOf (y1 * (finv z1))))) (results_cell_row (fn := Tryd.f26) (p := 2) (ty := 23) rfl _ _ br0_1 23 _ (0, 0) _ rfl Bxr0y1_s6_0.out Tryd.underlying23 rfl (by rw [numsA_size, keyOf_length _]; exact sizeKey)) rfl ⟨by rw [encL_f (of_decide_eq_false Hcd7.out)], HU6_0.out⟩
set_option maxHeartbeats 4000000 in
theorem evenXP {y : Fp} {a : Array Value} (w : World) (hT : Tw w) (ha : Ch 5 RE [y] a) (hne : dC * (y * y) + fv 1 ≠ 0) :
    Calls Tryd.prog 61 #[.agg a] w (RetCV 5 RE [rootF ((y * y) - (fv 1)) ((dC * (y * y)) + (fv 1))] (.bool (rootO ((y * y) - (fv 1)) ((dC * (y * y)) + (fv 1)))) w) := by
  have HT := hh hT
  clear hT
  have HU := hh (Upd.refl (fun _ => False) w)
  go_enter Tryd.func61, Tryd.ntmps61
  refine wp_seq_k fun K0 hK0 => ?_
  refine wp_region_qSD 3 #[true, true, true] [] ([.blk ptrTo 39 (Ch 5 RE [y]), .blk ptrTo 39 (Ch 5 RE [0]), .val (.bool false)] : List SQ) (by kernel_rfl) (by kernel_rfl) (by kernel_rfl) (by kernel_rfl) ?_ ?_
  · intro i o listed an wn ho hls hst hun hdep hI hD hpre K' hK'
    rcases slot_cases (l := [0, 1, 2]) rfl ho hst with rfl | rfl | rfl | ⟨⟨⟩⟩
    · obtain rfl := Option.some.inj ho
      have hvp : an.eval (.tmp 0) = .agg a := hI.oq (by kernel_rfl) rfl
      exact hI.newQ hD hls (Nat.le_refl _) (newsQ_spec (l := [0, 1]) (by kernel_rfl) ⟨⟨_, _, rfl⟩, ⟨_, _, rfl⟩, trivial⟩) rfl rfl rfl 39 a _ (run_boxQ rfl hvp wn) rfl ha hK'
    · obtain rfl := Option.some.inj ho
      exact hI.newQ hD hls (Nat.le_refl _) (newsQ_spec (l := [0, 1]) (by kernel_rfl) ⟨⟨_, _, rfl⟩, ⟨_, _, rfl⟩, trivial⟩) rfl rfl rfl 39 zE _ (run_allocQ rfl zE_run wn) rfl zE_ch hK'
    · obtain rfl := Option.some.inj ho
      exact hI.pq hD hls rfl rfl rfl _ (run_moveQ (.inr rfl) (show an.eval (.const (.bool false)) = .bool false from rfl) wn) (.val (.bool false)) rfl rfl rfl hK'
  intro an w1 hI
  obtain ⟨vr0_0, hvr0_0, br0_0, zr0_0, rfl, hnr0_0, hbr0_0, hzr0_0⟩ := hI.hq 0 _ 1 _ rfl rfl rfl rfl
  obtain ⟨vr0_1, hvr0_1, br0_1, zr0_1, rfl, hnr0_1, hbr0_1, hzr0_1⟩ := hI.hq 1 _ 2 _ rfl rfl rfl rfl
  obtain ⟨vr0_2, hvr0_2, rfl⟩ := hI.hq 2 _ 3 _ rfl rfl rfl rfl
  have hupd := hI.upd
  have hner0_0_r0_1 := hh (show br0_0 ≠ br0_1 from fun e => hI.apart 0 1 _ _ 1 2 (by omega) rfl rfl rfl rfl rfl rfl rfl rfl (by rw [hvr0_0, hvr0_1, e]))
  have ha := hI.act [(1, ptrTo br0_0), (2, ptrTo br0_1), (3, .bool false)] (by simp [hvr0_0, hvr0_1, hvr0_2]) (by kernel_rfl)
  clear hI hvr0_0 hvr0_1 hvr0_2
  subst ha
  simp only [List.foldl_cons, List.foldl_nil, List.setIfInBounds_toArray, List.set_cons_zero, List.set_cons_succ]
  have hger0_0 := geB HU hnr0_0
  have hger0_1 := geB HU hnr0_1
  have Bxr0y0 := hh hbr0_0
  have Bxr0y1 := hh hbr0_1
  have HU0 := hh (HU.out.trans hupd)
  clear hupd
  refine wpOps_nil ?_
  refine hK0 _ _ ?_
  clear hK0
  refine wp_seq_k fun K1 hK1 => ?_
  refine wp_region_qSD 4 #[true, true, true, true, false] [4] ([.val (.agg zr0_0), .val (.agg zr0_0), .like (IsC 5 RE [y * y]), .blk ptrTo 39 (Ch 5 RE [0]), .val undef] : List SQ) (by kernel_rfl) (by kernel_rfl) (by kernel_rfl) (by kernel_rfl) ?_ ?_
  · intro i o listed an wn ho hls hst hun hdep hI hD hpre K' hK'
    rcases slot_cases (l := [0, 1, 2, 3]) rfl ho hst with rfl | rfl | rfl | rfl | ⟨⟨⟩⟩
    · obtain rfl := Option.some.inj ho
      have hvp : an.eval (.tmp 1) = ptrTo br0_0 := hI.oq (by kernel_rfl) rfl
      exact hI.pq hD hls rfl rfl rfl _ (run_loadQ rfl hvp wn (hI.upd.keep Bxr0y0).out Tryd.underlying39 rfl szE (by rw [hzr0_0.size]; exact Nat.le_of_ble_eq_true rfl)) (.val (.agg zr0_0)) rfl (congrArg Value.agg (extract_all _ 5 hzr0_0.size)) rfl hK'
    · obtain rfl := Option.some.inj ho
      have hvp : an.eval (.tmp 1) = ptrTo br0_0 := hI.oq (by kernel_rfl) rfl
      exact hI.pq hD hls rfl rfl rfl _ (run_loadQ rfl hvp wn (hI.upd.keep Bxr0y0).out Tryd.underlying39 rfl szE (by rw [hzr0_0.size]; exact Nat.le_of_ble_eq_true rfl)) (.val (.agg zr0_0)) rfl (congrArg Value.agg (extract_all _ 5 hzr0_0.size)) rfl hK'
    · obtain rfl := Option.some.inj ho
      obtain ⟨vp, hvp, rfl⟩ := hI.hq 0 _ 5 _ rfl rfl rfl (dp hdep 0 rfl rfl)
      obtain ⟨vq, hvq, rfl⟩ := hI.hq 1 _ 6 _ rfl rfl rfl (dp hdep 1 rfl rfl)
      exact hI.cq hD hls rfl rfl rfl 44 #[.tmp 5, .tmp 6] _ rfl #[.agg zr0_0, .agg zr0_0] (by simp [eval_of hvp, eval_of hvq]) (run_enter Tryd.func44 (by kernel_rfl) (by kernel_rfl)) (.like (IsC 5 RE [y * y])) rfl rfl ((mulE hzr0_0 hzr0_0).mono fun _ _ h => h.sq) hK'
    · obtain rfl := Option.some.inj ho
      exact hI.newQ hD hls (Nat.le_refl _) (newsQ_spec (l := [3]) (by kernel_rfl) ⟨⟨_, _, rfl⟩, trivial⟩) rfl rfl rfl 39 zE _ (run_allocQ rfl zE_run wn) rfl zE_ch hK'
  intro an w2 hI
  obtain ⟨vr1_0, hvr1_0, rfl⟩ := hI.hq 0 _ 5 _ rfl rfl rfl rfl
  obtain ⟨vr1_1, hvr1_1, rfl⟩ := hI.hq 1 _ 6 _ rfl rfl rfl rfl
  obtain ⟨vr1_2, hvr1_2, ar1_2, rfl, hCr1_2⟩ := hI.hq 2 _ 7 _ rfl rfl rfl rfl
  obtain ⟨vr1_3, hvr1_3, br1_3, zr1_3, rfl, hnr1_3, hbr1_3, hzr1_3⟩ := hI.hq 3 _ 4 _ rfl rfl rfl rfl
  have hupd := hI.upd
  have ha := hI.act [(5, .agg zr0_0), (6, .agg zr0_0), (7, .agg ar1_2), (4, ptrTo br1_3)] (by simp [hvr1_0, hvr1_1, hvr1_2, hvr1_3]) (by kernel_rfl)
  clear hI hvr1_0 hvr1_1 hvr1_2 hvr1_3
  subst ha
  simp only [List.foldl_cons, List.foldl_nil, List.setIfInBounds_toArray, List.set_cons_zero, List.set_cons_succ]
  have hner1_3_Bxr0y0 := apartB Bxr0y0 hnr1_3
  have hner1_3_Bxr0y1 := apartB Bxr0y1 hnr1_3
  have hger1_3 := geB HU0 hnr1_3
  have Bxr0y0_1 := hupd.keep Bxr0y0
  have Bxr0y1_1 := hupd.keep Bxr0y1
  have Bxr1y3 := hh hbr1_3
  have HU1 := hh (HU0.out.trans hupd)
  clear hupd
  refine wpOps_storeQ 4 rfl rfl rfl 39 (.tmp 4) (.tmp 7) rfl br1_3 0 5 rfl ar1_2 rfl 39 zr1_3 Bxr1y3.out szE hCr1_2.size (by rw [hzr1_3.size]; exact Nat.le_of_ble_eq_true rfl) hCr1_2.one' ?_
  intro ws1_0 hs1_0 hus1_0
  rw [splice_all _ _ 5 hzr1_3.size hCr1_2.size] at hs1_0
  have Bxr0y0_s1_0 := hus1_0.keepS Bxr0y0_1 (fun e => hner1_3_Bxr0y0.out e.symm)
  have Bxr0y1_s1_0 := hus1_0.keepS Bxr0y1_1 (fun e => hner1_3_Bxr0y1.out e.symm)
  have Bxr1y3_s1_0 := hh hs1_0
  have HU1_0 := hh (HU1.out.step hus1_0 (fun i hi h => absurd hi (Nat.not_lt.2 (h.symm ▸ hger1_3.out))))
  clear hs1_0 hus1_0
  refine wpOps_nil ?_
  refine hK1 _ _ ?_
  clear hK1
  refine wp_seq_k fun K2 hK2 => ?_
  refine wp_region_qD #[true, true, true, true, true, true, true, true, true, true, true, true, false, false] ([.val (.agg ar1_2), .like (IsC 5 RE [fv 1]), .like (IsC 5 RE [(y * y) - (fv 1)]), .like (IsC 5 RE [dC]), .val (.agg ar1_2), .like (IsC 5 RE [dC * (y * y)]), .like (IsC 5 RE [fv 1]), .blk (fun b => .slice (some ⟨b, 0, none⟩) 2 2) 39 (Ch 5 RE [dC * (y * y), fv 1]), .like (IsC 5 RE [(dC * (y * y)) + (fv 1)]), .like (IsCV 5 RE [rootF ((y * y) - (fv 1)) ((dC * (y * y)) + (fv 1))] (.bool (rootO ((y * y) - (fv 1)) ((dC * (y * y)) + (fv 1))))), .like (IsC 5 RE [rootF ((y * y) - (fv 1)) ((dC * (y * y)) + (fv 1))]), .val (.bool (rootO ((y * y) - (fv 1)) ((dC * (y * y)) + (fv 1)))), .val undef, .val undef] : List SQ) (by kernel_rfl) (by kernel_rfl) (by kernel_rfl) (by kernel_rfl) ?_ ?_
  · intro i o listed an wn ho hls hst hun hdep hI hD K' hK'
    rcases slot_cases (l := [0, 1, 2, 3, 4, 5, 6, 7, 8, 9, 10, 11]) rfl ho hst with rfl | rfl | rfl | rfl | rfl | rfl | rfl | rfl | rfl | rfl | rfl | rfl | ⟨⟨⟩⟩
    · obtain rfl := Option.some.inj ho
      have hvp : an.eval (.tmp 4) = ptrTo br1_3 := hI.oq (by kernel_rfl) rfl
      exact hI.pq hD hls rfl rfl rfl _ (run_loadQ rfl hvp wn (hI.upd.keepD Bxr1y3_s1_0).out Tryd.underlying39 rfl szE (by rw [hCr1_2.size]; exact Nat.le_of_ble_eq_true rfl)) (.val (.agg ar1_2)) rfl (congrArg Value.agg (extract_all _ 5 hCr1_2.size)) rfl hK'
    · obtain rfl := Option.some.inj ho
      exact hI.cq hD hls rfl rfl rfl 43 #[.const (.int .u32 1)] _ rfl #[.int .u32 1] (by simp [Act.eval]) (run_enter Tryd.func43 (by kernel_rfl) (by kernel_rfl)) (.like (IsC 5 RE [fv 1])) rfl rfl ((smallE 1 (by decide) (by decide)).mono fun _ _ h => h.sq) hK'
    · obtain rfl := Option.some.inj ho
      obtain ⟨vp, hvp, rfl⟩ := hI.hq 0 _ 8 _ rfl rfl rfl (dp hdep 0 rfl rfl)
      obtain ⟨vq, hvq, aq, rfl, hCq⟩ := hI.hq 1 _ 9 _ rfl rfl rfl (dp hdep 1 rfl rfl)
      exact hI.cq hD hls rfl rfl rfl 46 #[.tmp 8, .tmp 9] _ rfl #[.agg ar1_2, .agg aq] (by simp [eval_of hvp, eval_of hvq]) (run_enter Tryd.func46 (by kernel_rfl) (by kernel_rfl)) (.like (IsC 5 RE [(y * y) - (fv 1)])) rfl rfl ((subE (HT.out.upd (HU1_0.out.drew.trans hI.upd)) hCr1_2 hCq).mono fun _ _ h => h.sq) hK'
    · obtain rfl := Option.some.inj ho
      exact hI.cq hD hls rfl rfl rfl 94 #[] _ rfl #[] (by simp) (run_enter Tryd.func94 (by kernel_rfl) (by kernel_rfl)) (.like (IsC 5 RE [dC])) rfl rfl ((dP2 _).mono fun _ _ h => h.sq) hK'
    · obtain rfl := Option.some.inj ho
      have hvp : an.eval (.tmp 4) = ptrTo br1_3 := hI.oq (by kernel_rfl) rfl
      exact hI.pq hD hls rfl rfl rfl _ (run_loadQ rfl hvp wn (hI.upd.keepD Bxr1y3_s1_0).out Tryd.underlying39 rfl szE (by rw [hCr1_2.size]; exact Nat.le_of_ble_eq_true rfl)) (.val (.agg ar1_2)) rfl (congrArg Value.agg (extract_all _ 5 hCr1_2.size)) rfl hK'
    · obtain rfl := Option.some.inj ho
      obtain ⟨vp, hvp, ap, rfl, hCp⟩ := hI.hq 3 _ 11 _ rfl rfl rfl (dp hdep 0 rfl rfl)
      obtain ⟨vq, hvq, rfl⟩ := hI.hq 4 _ 12 _ rfl rfl rfl (dp hdep 1 rfl rfl)
      exact hI.cq hD hls rfl rfl rfl 44 #[.tmp 11, .tmp 12] _ rfl #[.agg ap, .agg ar1_2] (by simp [eval_of hvp, eval_of hvq]) (run_enter Tryd.func44 (by kernel_rfl) (by kernel_rfl)) (.like (IsC 5 RE [dC * (y * y)])) rfl rfl ((mulE hCp hCr1_2).mono fun _ _ h => h.sq) hK'
    · obtain rfl := Option.some.inj ho
      exact hI.cq hD hls rfl rfl rfl 43 #[.const (.int .u32 1)] _ rfl #[.int .u32 1] (by simp [Act.eval]) (run_enter Tryd.func43 (by kernel_rfl) (by kernel_rfl)) (.like (IsC 5 RE [fv 1])) rfl rfl ((smallE 1 (by decide) (by decide)).mono fun _ _ h => h.sq) hK'
    · obtain rfl := Option.some.inj ho
      obtain ⟨vp, hvp, ap, rfl, hCp⟩ := hI.hq 5 _ 13 _ rfl rfl rfl (dp hdep 0 rfl rfl)
      obtain ⟨vq, hvq, aq, rfl, hCq⟩ := hI.hq 6 _ 14 _ rfl rfl rfl (dp hdep 1 rfl rfl)
      exact hI.rowQ hD hls (Nat.le_refl _) rfl rfl rfl _ _ _ _ (run_pairQ rfl (eval_of hvp) (eval_of hvq) hCp.size hCq.size wn) rfl (hCp.cat hCq) rfl hK'
    · obtain rfl := Option.some.inj ho
      obtain ⟨vp, hvp, bp, zp, rfl, hnp, hbp, hzp⟩ := hI.hq 7 _ 15 _ rfl rfl rfl (dp hdep 0 rfl rfl)
      exact hI.cq hD hls rfl rfl rfl 45 #[.tmp 15] _ rfl #[.slice (some ⟨bp, 0, none⟩) 2 2] (by simp [eval_of hvp]) (run_enter Tryd.func45 (by kernel_rfl) (by kernel_rfl)) (.like (IsC 5 RE [(dC * (y * y)) + (fv 1)])) rfl rfl ((addE hbp hzp).mono fun _ _ h => h.sq) hK'
    · obtain rfl := Option.some.inj ho
      obtain ⟨vp, hvp, ap, rfl, hCp⟩ := hI.hq 2 _ 10 _ rfl rfl rfl (dp hdep 0 rfl rfl)
      obtain ⟨vq, hvq, aq, rfl, hCq⟩ := hI.hq 8 _ 16 _ rfl rfl rfl (dp hdep 1 rfl rfl)
      exact hI.cq hD hls rfl rfl rfl 93 #[.tmp 10, .tmp 16] _ rfl #[.agg ap, .agg aq] (by simp [eval_of hvp, eval_of hvq]) (run_enter Tryd.func93 (by kernel_rfl) (by kernel_rfl)) (.like (IsCV 5 RE [rootF ((y * y) - (fv 1)) ((dC * (y * y)) + (fv 1))] (.bool (rootO ((y * y) - (fv 1)) ((dC * (y * y)) + (fv 1)))))) rfl rfl ((rootE _ (HT.out.upd (HU1_0.out.drew.trans hI.upd)) hCp hCq hne).mono fun _ _ h => h.sq) hK'
    · obtain rfl := Option.some.inj ho
      obtain ⟨vp, hvp, ap, rfl, hCp⟩ := hI.hq 9 _ 17 _ rfl rfl rfl (dp hdep 0 rfl rfl)
      exact hI.pq hD hls rfl rfl rfl _ (run_extractQ rfl (eval_of hvp) rfl wn) (.like (IsC 5 RE [rootF ((y * y) - (fv 1)) ((dC * (y * y)) + (fv 1))])) rfl ⟨_, rfl, hCp⟩ rfl hK'
    · obtain rfl := Option.some.inj ho
      obtain ⟨vp, hvp, ap, rfl, hCp⟩ := hI.hq 9 _ 17 _ rfl rfl rfl (dp hdep 0 rfl rfl)
      exact hI.pq hD hls rfl rfl rfl _ (run_extractQ rfl (eval_of hvp) rfl wn) (.val (.bool (rootO ((y * y) - (fv 1)) ((dC * (y * y)) + (fv 1))))) rfl rfl rfl hK'
  intro fuel an w3 hf hI
  obtain ⟨vr2_0, hvr2_0, rfl⟩ := hI.hq 0 _ 8 _ rfl rfl rfl rfl
  obtain ⟨vr2_1, hvr2_1, ar2_1, rfl, hCr2_1⟩ := hI.hq 1 _ 9 _ rfl rfl rfl rfl
  obtain ⟨vr2_2, hvr2_2, ar2_2, rfl, hCr2_2⟩ := hI.hq 2 _ 10 _ rfl rfl rfl rfl
  obtain ⟨vr2_3, hvr2_3, ar2_3, rfl, hCr2_3⟩ := hI.hq 3 _ 11 _ rfl rfl rfl rfl
  obtain ⟨vr2_4, hvr2_4, rfl⟩ := hI.hq 4 _ 12 _ rfl rfl rfl rfl
  obtain ⟨vr2_5, hvr2_5, ar2_5, rfl, hCr2_5⟩ := hI.hq 5 _ 13 _ rfl rfl rfl rfl
  obtain ⟨vr2_6, hvr2_6, ar2_6, rfl, hCr2_6⟩ := hI.hq 6 _ 14 _ rfl rfl rfl rfl
  obtain ⟨vr2_7, hvr2_7, br2_7, zr2_7, rfl, hnr2_7, hbr2_7, hzr2_7⟩ := hI.hq 7 _ 15 _ rfl rfl rfl rfl
  obtain ⟨vr2_8, hvr2_8, ar2_8, rfl, hCr2_8⟩ := hI.hq 8 _ 16 _ rfl rfl rfl rfl
  obtain ⟨vr2_9, hvr2_9, ar2_9, rfl, hCr2_9⟩ := hI.hq 9 _ 17 _ rfl rfl rfl rfl
  obtain ⟨vr2_10, hvr2_10, ar2_10, rfl, hCr2_10⟩ := hI.hq 10 _ 18 _ rfl rfl rfl rfl
  obtain ⟨vr2_11, hvr2_11, rfl⟩ := hI.hq 11 _ 19 _ rfl rfl rfl rfl
  have hupd := hI.upd
  have ha := hI.act [(8, .agg ar1_2), (9, .agg ar2_1), (10, .agg ar2_2), (11, .agg ar2_3), (12, .agg ar1_2), (13, .agg ar2_5), (14, .agg ar2_6), (15, .slice (some ⟨br2_7, 0, none⟩) 2 2), (16, .agg ar2_8), (17, .tuple #[.agg ar2_9, .bool (rootO ((y * y) - (fv 1)) ((dC * (y * y)) + (fv 1)))]), (18, .agg ar2_10), (19, .bool (rootO ((y * y) - (fv 1)) ((dC * (y * y)) + (fv 1))))] (by simp [hvr2_0, hvr2_1, hvr2_2, hvr2_3, hvr2_4, hvr2_5, hvr2_6, hvr2_7, hvr2_8, hvr2_9, hvr2_10, hvr2_11]) (by kernel_rfl)
  clear hI hvr2_0 hvr2_1 hvr2_2 hvr2_3 hvr2_4 hvr2_5 hvr2_6 hvr2_7 hvr2_8 hvr2_9 hvr2_10 hvr2_11
  subst ha
  simp only [List.foldl_cons, List.foldl_nil, List.setIfInBounds_toArray, List.set_cons_zero, List.set_cons_succ]
  have Bxr0y0_2 := hupd.keepD Bxr0y0_s1_0
  have Bxr0y1_2 := hupd.keepD Bxr0y1_s1_0
  have Bxr1y3_2 := hupd.keepD Bxr1y3_s1_0
  have HU2 := hh (HU1_0.out.drew.trans hupd)
  clear hupd
  have hf0 : left #[true, true, true, true, true, true, true, true, true, true, true, true, false, false] 14 = 2 := by kernel_rfl
  have hf1 : left #[true, true, true, true, true, true, true, true, true, true, true, true, false, false] 14 ≤ fuel := hf
  obtain ⟨fu, rfl⟩ : ∃ fu, fuel = fu + 2 := ⟨fuel - 2, by omega⟩
  clear hf hf0 hf1
  refine wpAny_storeQ 12 rfl (by kernel_rfl) rfl rfl 39 (.tmp 2) (.tmp 18) rfl br0_1 0 5 rfl ar2_10 rfl 39 zr0_1 Bxr0y1_2.out szE hCr2_10.size (by rw [hzr0_1.size]; exact Nat.le_of_ble_eq_true rfl) hCr2_10.one' ?_
  intro ws2_0 hs2_0 hus2_0
  rw [splice_all _ _ 5 hzr0_1.size hCr2_10.size] at hs2_0
  have Bxr0y0_s2_0 := hus2_0.keepS Bxr0y0_2 (fun e => hner0_0_r0_1.out e)
  have Bxr1y3_s2_0 := hus2_0.keepS Bxr1y3_2 (fun e => hner1_3_Bxr0y1.out e)
  have Bxr0y1_s2_0 := hh hs2_0
  have HU2_0 := hh (HU2.out.step hus2_0 (fun i hi h => absurd hi (Nat.not_lt.2 (h.symm ▸ hger0_1.out))))
  clear hs2_0 hus2_0
  refine wpAny_pureQ 13 rfl (by kernel_rfl) rfl 3 rfl (.bool (rootO ((y * y) - (fv 1)) ((dC * (y * y)) + (fv 1)))) (run_moveQ (x := .tmp 19) (v := .bool (rootO ((y * y) - (fv 1)) ((dC * (y * y)) + (fv 1)))) (.inr rfl) rfl _) ?_
  simp only [List.setIfInBounds_toArray, List.set_cons_zero, List.set_cons_succ]
  refine wpAny_done (by kernel_rfl) ?_ _
  refine hK2 _ _ ?_
  clear hK2
  refine wp_ret ?_
  try dsimp only [Exit.then]
  try dsimp only [Exit.inBlock]
  exact bodyPost_ret (v := .tuple #[.agg ar2_10, .bool (rootO ((y * y) - (fv 1)) ((dC * (y * y)) + (fv 1)))]) (results_cell_tmpQ (fn := Tryd.f61) (p := 2) (q := 3) (ty := 39) rfl _ _ br0_1 ar2_10 (.bool (rootO ((y * y) - (fv 1)) ((dC * (y * y)) + (fv 1)))) rfl rfl Bxr0y1_s2_0.out Tryd.underlying39 rfl (by rw [hCr2_10.size]; exact szE)) rfl ⟨_, rfl, hCr2_10, HU2_0.out⟩
end Go.Proofs.YtdpafemcpbhlfaaDoor
