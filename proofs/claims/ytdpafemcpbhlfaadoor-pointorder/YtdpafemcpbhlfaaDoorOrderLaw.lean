/-
  The walk of PointOrder.
-/
import Derived.Test.YtdpafemcpbhlfaaDoorPt5
import Derived.Test.YtdpafemcpbhlfaaDoorScB
namespace Go.Proofs.YtdpafemcpbhlfaaDoor
set_option maxRecDepth 100000
open Go.RowKit

def keyO0 : List Int := [1, 0, 0, 0, 0, 0, 0, 0, 0, 0, 0, 0, 0, 0, 0, 0, 0, 0, 0, 0, 0, 0, 0, 0, 0, 0, 0, 0, 0, 0, 0, 0]
theorem keyO0_length : keyO0.length = 32 := rfl
theorem keyO0_digs : Digs 256 keyO0 := digs_of_all (by decide)
theorem keyO0_run {o : Oper} {a : Act} (ho : o.op = .build 23 #[(0, .const (.int .u8 1))]) (w : World) : (execOp a.eval o).run Tryd.prog w = .ok (.value (.agg (numsA .u8 keyO0))) w := by
  have hb : (Instr.build 23 #[(0, .int .u8 1)]).run Tryd.prog w = .ok (.agg (numsA .u8 keyO0)) w := by kernel_rfl
  have hm : (#[(0, .const (.int .u8 1))] : Array (Nat × Operand)).map (fun (i, x) => (i, a.eval x)) = #[(0, .int .u8 1)] := by simp [Act.eval]
  unfold execOp
  simp only [ho]
  rw [hm, Sem.run_bind, hb]
  rfl
set_option maxHeartbeats 4000000 in
theorem pointOrder_any {a b : List Int} (w : World) (hT : Tw w) (hS : Sc.Tab w) (ha : a.length = 32) (da : Digs 256 a) (hb : b.length = 32) (db : Digs 256 b) :
    Calls Tryd.prog 13 #[.agg (numsA .u8 a), .agg (numsA .u8 b)] w fun e w' => e = .returned (.bool true) ∧ Upd (fun _ => False) w w' := by
  have HT := hh hT
  clear hT
  have HU := hh (Upd.refl (fun _ => False) w)
  have HS := hh hS
  clear hS
  go_enter Tryd.func13, Tryd.ntmps13
  refine wp_seq_k fun K0 hK0 => ?_
  refine wp_region_qSD 3 #[true, true, true] [] ([.blk ptrTo 23 (fun z => z = numsA .u8 a), .blk ptrTo 23 (fun z => z = numsA .u8 b), .val (.bool false)] : List SQ) (by kernel_rfl) (by kernel_rfl) (by kernel_rfl) (by kernel_rfl) ?_ ?_
  · intro i o listed an wn ho hls hst hun hdep hI hD hpre K' hK'
    rcases slot_cases (l := [0, 1, 2]) rfl ho hst with rfl | rfl | rfl | ⟨⟨⟩⟩
    · obtain rfl := Option.some.inj ho
      have hvp : an.eval (.tmp 0) = .agg (numsA .u8 a) := hI.oq (by kernel_rfl) rfl
      exact hI.newQ hD hls (Nat.le_refl _) (newsQ_spec (l := [0, 1]) (by kernel_rfl) ⟨⟨_, _, rfl⟩, ⟨_, _, rfl⟩, trivial⟩) rfl rfl rfl 23 _ (fun z => z = numsA .u8 a) (run_boxQ rfl hvp wn) rfl rfl hK'
    · obtain rfl := Option.some.inj ho
      have hvp : an.eval (.tmp 1) = .agg (numsA .u8 b) := hI.oq (by kernel_rfl) rfl
      exact hI.newQ hD hls (Nat.le_refl _) (newsQ_spec (l := [0, 1]) (by kernel_rfl) ⟨⟨_, _, rfl⟩, ⟨_, _, rfl⟩, trivial⟩) rfl rfl rfl 23 _ (fun z => z = numsA .u8 b) (run_boxQ rfl hvp wn) rfl rfl hK'
    · obtain rfl := Option.some.inj ho
      exact hI.pq hD hls rfl rfl rfl _ (run_moveQ (.inr rfl) (show an.eval (.const (.bool false)) = .bool false from rfl) wn) (.val (.bool false)) rfl rfl rfl hK'
  intro an w1 hI
  obtain ⟨vr0_0, hvr0_0, br0_0, zr0_0, rfl, hnr0_0, hbr0_0, hzr0_0⟩ := hI.hq 0 _ 2 _ rfl rfl rfl rfl
  rw [hzr0_0] at hbr0_0
  clear hzr0_0
  obtain ⟨vr0_1, hvr0_1, br0_1, zr0_1, rfl, hnr0_1, hbr0_1, hzr0_1⟩ := hI.hq 1 _ 3 _ rfl rfl rfl rfl
  rw [hzr0_1] at hbr0_1
  clear hzr0_1
  obtain ⟨vr0_2, hvr0_2, rfl⟩ := hI.hq 2 _ 4 _ rfl rfl rfl rfl
  have hupd := hI.upd
  have hner0_0_r0_1 := hh (show br0_0 ≠ br0_1 from fun e => hI.apart 0 1 _ _ 2 3 (by omega) rfl rfl rfl rfl rfl rfl rfl rfl (by rw [hvr0_0, hvr0_1, e]))
  have ha := hI.act [(2, ptrTo br0_0), (3, ptrTo br0_1), (4, .bool false)] (by simp [hvr0_0, hvr0_1, hvr0_2]) (by kernel_rfl)
  clear hI hvr0_0 hvr0_1 hvr0_2
  subst ha
  simp only [List.foldl_cons, List.foldl_nil, List.setIfInBounds_toArray, List.set_cons_zero, List.set_cons_succ]
  have hger0_0 := geB HU hnr0_0
  have hger0_1 := geB HU hnr0_1
  have Bxr0y0 := hh hbr0_0
  have Bxr0y1 := hh hbr0_1
  have HU0 := hh (HU.out.trans hupd)
  clear hupd
  refine wpOps_nil ?_
  refine hK0 _ _ ?_
  clear hK0
  refine wp_seq_k fun K1 hK1 => ?_
  refine wp_seq_k fun K2 hK2 => ?_
  refine wp_region_qSD 2 #[true, true] [] ([.val (.bool true), .val (.bool false)] : List SQ) (by kernel_rfl) (by kernel_rfl) (by kernel_rfl) (by kernel_rfl) ?_ ?_
  · intro i o listed an wn ho hls hst hun hdep hI hD hpre K' hK'
    rcases slot_cases (l := [0, 1]) rfl ho hst with rfl | rfl | ⟨⟨⟩⟩
    · obtain rfl := Option.some.inj ho
      exact hI.cq hD hls rfl rfl rfl 23 #[] _ rfl #[] (by simp) (run_enter Tryd.func23 (by kernel_rfl) (by kernel_rfl)) (.val (.bool true)) rfl rfl ((basedL _ (HT.out.upd (HU0.out.trans hI.upd))).mono fun _ _ h => ret_val h) hK'
    · obtain rfl := Option.some.inj ho
      obtain ⟨vp, hvp, rfl⟩ := hI.hq 0 _ 13 _ rfl rfl rfl (dp hdep 0 rfl rfl)
      exact hI.pq hD hls rfl rfl rfl _ (run_not rfl (eval_of hvp) wn) (.val (.bool false)) rfl rfl rfl hK'
  intro an w2 hI
  obtain ⟨vr1_0, hvr1_0, rfl⟩ := hI.hq 0 _ 13 _ rfl rfl rfl rfl
  obtain ⟨vr1_1, hvr1_1, rfl⟩ := hI.hq 1 _ 14 _ rfl rfl rfl rfl
  have hupd := hI.upd
  have ha := hI.act [(13, .bool true), (14, .bool false)] (by simp [hvr1_0, hvr1_1]) (by kernel_rfl)
  clear hI hvr1_0 hvr1_1
  subst ha
  simp only [List.foldl_cons, List.foldl_nil, List.setIfInBounds_toArray, List.set_cons_zero, List.set_cons_succ]
  have Bxr0y0_1 := hupd.keep Bxr0y0
  have Bxr0y1_1 := hupd.keep Bxr0y1
  have HU1 := hh (HU0.out.trans hupd)
  clear hupd
  refine wpOps_nil ?_
  refine hK2 _ _ ?_
  clear hK2
  refine wp_cond_false rfl ?_
  refine wp_skip ?_
  refine hK1 _ _ ?_
  clear hK1
  refine wp_seq_k fun K3 hK3 => ?_
  refine wp_region_qSD 1 #[true] [] ([.blk ptrTo 23 (fun z => z = numsA .u8 zeroKL)] : List SQ) (by kernel_rfl) (by kernel_rfl) (by kernel_rfl) (by kernel_rfl) ?_ ?_
  · intro i o listed an wn ho hls hst hun hdep hI hD hpre K' hK'
    rcases slot_cases (l := [0]) rfl ho hst with rfl | ⟨⟨⟩⟩
    · obtain rfl := Option.some.inj ho
      exact hI.newQ hD hls (Nat.le_refl _) (newsQ_spec (l := [0]) (by kernel_rfl) ⟨⟨_, _, rfl⟩, trivial⟩) rfl rfl rfl 23 _ (fun z => z = numsA .u8 zeroKL) (run_allocQ rfl zeroK_run wn) rfl rfl hK'
  intro an w3 hI
  obtain ⟨vr2_0, hvr2_0, br2_0, zr2_0, rfl, hnr2_0, hbr2_0, hzr2_0⟩ := hI.hq 0 _ 5 _ rfl rfl rfl rfl
  rw [hzr2_0] at hbr2_0
  clear hzr2_0
  have hupd := hI.upd
  have ha := hI.act [(5, ptrTo br2_0)] (by simp [hvr2_0]) (by kernel_rfl)
  clear hI hvr2_0
  subst ha
  simp only [List.foldl_cons, List.foldl_nil, List.setIfInBounds_toArray, List.set_cons_zero, List.set_cons_succ]
  have hner2_0_Bxr0y0_1 := apartB Bxr0y0_1 hnr2_0
  have hner2_0_Bxr0y1_1 := apartB Bxr0y1_1 hnr2_0
  have hger2_0 := geB HU1 hnr2_0
  have Bxr0y0_2 := hupd.keep Bxr0y0_1
  have Bxr0y1_2 := hupd.keep Bxr0y1_1
  have Bxr2y0 := hh hbr2_0
  have HU2 := hh (HU1.out.trans hupd)
  clear hupd
  refine wpOps_nil ?_
  refine hK3 _ _ ?_
  clear hK3
  refine wp_seq_k fun K4 hK4 => ?_
  refine wp_seq_k fun K5 hK5 => ?_
  refine wp_region_l [0, 1, 2] rfl ?_
  refine wpOps_callK 0 rfl rfl 15 rfl 39 #[] _ rfl #[] (by simp) (run_enter Tryd.func39 (by kernel_rfl) (by kernel_rfl)) ?_
  refine (orderR _).mono ?_
  rintro e wo ⟨go, co, zo, rfl, hgo, hbo, hzo, huo⟩
  refine ⟨_, rfl, ?_⟩
  simp only [List.setIfInBounds_toArray, List.set_cons_zero, List.set_cons_succ]
  refine wpOps_pureQ 1 rfl rfl 16 rfl (.int .i64 ((32 : Nat) : Int)) (run_lenS Tryd.underlying62 rfl rfl _) ?_
  simp only [List.setIfInBounds_toArray, List.set_cons_zero, List.set_cons_succ]
  refine wpOps_pureQ 2 rfl rfl 17 rfl (.int .i64 0) (run_moveQ (x := .const (.int .i64 0)) (v := .int .i64 0) (.inl rfl) rfl _) ?_
  simp only [List.setIfInBounds_toArray, List.set_cons_zero, List.set_cons_succ]
  refine wpOps_nil ?_
  have hne_go_xr0y0 := apartB Bxr0y0_2 hgo
  have hne_go_xr0y1 := apartB Bxr0y1_2 hgo
  have hne_go_xr2y0 := apartB Bxr2y0 hgo
  have hge_go := geB HU2 hgo
  have Bxr0y0_o := huo.keep Bxr0y0_2
  have Bxr0y1_o := huo.keep Bxr0y1_2
  have Bxr2y0_o := huo.keep Bxr2y0
  have BO := hh hbo
  have HZO := hh hzo
  have HUo := hh (HU2.out.trans huo)
  clear hbo hzo huo hgo
  refine hK5 _ _ ?_
  clear hK5
  refine wp_block ?_
  refine wp_loop (fun a' w' => ∃ (k : Nat) (u6_6 u6_7 u6_18 u6_19 u6_20 u6_21 u6_22 u6_23 u6_24 u6_25 u6_26 : Value), k ≤ 32 ∧ a' = ⟨#[.agg (numsA .u8 a), .agg (numsA .u8 b), ptrTo br0_0, ptrTo br0_1, .bool false, ptrTo br2_0, u6_6, u6_7, undef, undef, undef, undef, undef, .bool true, .bool false, .slice (some ⟨go, 0, none⟩) 32 co, .int .i64 ((32 : Nat) : Int), .int .i64 (k : Int), u6_18, u6_19, u6_20, u6_21, u6_22, u6_23, u6_24, u6_25, u6_26, undef, undef, undef, undef, undef, undef, undef, undef, undef, undef, undef, undef, undef, undef, undef, undef, undef, undef, undef, undef, undef, undef, undef, undef, undef, undef, undef, undef, undef, undef, undef, undef, undef, undef, undef, undef, undef, undef], []⟩ ∧ Upd (fun _ => False) w w' ∧ Blk w' br2_0 23 (numsA .u8 (ordF k)) ∧ Blk w' br0_0 23 (numsA .u8 a) ∧ Blk w' br0_1 23 (numsA .u8 b) ∧ Blk w' go 3 zo) (fun a' _ => (32) - (intOf (a'.tmps.getD 17 undef)).toNat) ?_ ?_
  · exact ⟨0, undef, undef, undef, undef, undef, undef, undef, undef, undef, undef, undef, Nat.zero_le _, rfl, HUo.out, (by rw [ordF_zero]; exact Bxr2y0_o.out), Bxr0y0_o.out, Bxr0y1_o.out, BO.out⟩
  rintro a' wl6 ⟨k, u6_6, u6_7, u6_18, u6_19, u6_20, u6_21, u6_22, u6_23, u6_24, u6_25, u6_26, hk6, rfl, hul, hll5, hol0, hol1, hol2⟩
  have HUl6 := hh hul
  have Bxr2y0_l6 := hh hll5
  have Bxr0y0_l6 := hh hol0
  have Bxr0y1_l6 := hh hol1
  have Bord_l6 := hh hol2
  clear hul hll5 hol0 hol1 hol2
  by_cases hlt : k < 32
  · have Hlt6 := hh hlt
    refine wp_seq_k fun K7 hK7 => ?_
    have hq3_0 : decide ((((k : Int) : Int) < ((32 : Nat) : Int) : Prop)) = true := decide_eq_true (by omega)
    refine wp_region_qSD 1 #[true] [] ([.val (.bool true)] : List SQ) (by kernel_rfl) (by kernel_rfl) (by kernel_rfl) (by kernel_rfl) ?_ ?_
    · intro i o listed an wn ho hls hst hun hdep hI hD hpre K' hK'
      rcases slot_cases (l := [0]) rfl ho hst with rfl | ⟨⟨⟩⟩
      · obtain rfl := Option.some.inj ho
        have hvp : an.eval (.tmp 17) = .int .i64 (k : Int) := hI.oq (by kernel_rfl) rfl
        have hvq : an.eval (.tmp 16) = .int .i64 ((32 : Nat) : Int) := hI.oq (by kernel_rfl) rfl
        exact hI.pq hD hls rfl rfl rfl _ (run_lss rfl hvp hvq hq3_0 wn) (.val (.bool true)) rfl rfl rfl hK'
    intro an w4 hI
    obtain ⟨vr3_0, hvr3_0, rfl⟩ := hI.hq 0 _ 18 _ rfl rfl rfl rfl
    have hupd := hI.upd
    have ha := hI.act [(18, .bool true)] (by simp [hvr3_0]) (by kernel_rfl)
    clear hI hvr3_0
    subst ha
    simp only [List.foldl_cons, List.foldl_nil, List.setIfInBounds_toArray, List.set_cons_zero, List.set_cons_succ]
    have Bxr0y0_3 := hupd.keep Bxr0y0_l6
    have Bxr0y1_3 := hupd.keep Bxr0y1_l6
    have Bxr2y0_3 := hupd.keep Bxr2y0_l6
    have Bord_3 := hupd.keep Bord_l6
    have HU3 := hh (HUl6.out.trans hupd)
    clear hupd
    refine wpOps_nil ?_
    refine hK7 _ _ ?_
    clear hK7
    refine wp_seq_k fun K8 hK8 => ?_
    refine wp_cond_true rfl ?_
    refine wp_skip ?_
    refine hK8 _ _ ?_
    clear hK8
    refine wp_seq_k fun K9 hK9 => ?_
    refine wp_block ?_
    refine wp_seq_k fun K10 hK10 => ?_
    refine wp_region_qSD 5 #[true, true, true, true, true] [] ([.val (.int .i64 (k : Int)), .val (.pointer (some ⟨go, 1 * k, none⟩)), .val (.int .i64 (ordL.getD k 0)), .val (.int .i64 (k : Int)), .val (.int .i64 (ordL.getD k 0))] : List SQ) (by kernel_rfl) (by kernel_rfl) (by kernel_rfl) (by kernel_rfl) ?_ ?_
    · intro i o listed an wn ho hls hst hun hdep hI hD hpre K' hK'
      rcases slot_cases (l := [0, 1, 2, 3, 4]) rfl ho hst with rfl | rfl | rfl | rfl | rfl | ⟨⟨⟩⟩
      · obtain rfl := Option.some.inj ho
        have hvp : an.eval (.tmp 17) = .int .i64 (k : Int) := hI.oq (by kernel_rfl) rfl
        exact hI.pq hD hls rfl rfl rfl _ (run_moveQ (.inl rfl) hvp wn) (.val (.int .i64 (k : Int))) rfl rfl rfl hK'
      · obtain rfl := Option.some.inj ho
        have hvp : an.eval (.tmp 15) = .slice (some ⟨go, 0, none⟩) 32 co := hI.oq (by kernel_rfl) rfl
        have hvq : an.eval (.tmp 17) = .int .i64 (k : Int) := hI.oq (by kernel_rfl) rfl
        exact hI.pq hD hls rfl rfl rfl _ (run_adrS (i := k) rfl Tryd.underlying62 (by kernel_rfl) hvp hvq Hlt6.out wn) (.val (.pointer (some ⟨go, 1 * k, none⟩))) rfl rfl rfl hK'
      · obtain rfl := Option.some.inj ho
        obtain ⟨vp, hvp, rfl⟩ := hI.hq 1 _ 20 _ rfl rfl rfl (dp hdep 0 rfl rfl)
        exact hI.pq hD hls rfl rfl rfl _ (run_cellQ rfl Tryd.underlying3 (eval_of hvp) wn (hI.upd.keep Bord_3).out (by rw [Nat.one_mul]; exact HZO.out k Hlt6.out)) (.val (.int .i64 (ordL.getD k 0))) rfl rfl rfl hK'
      · obtain rfl := Option.some.inj ho
        obtain ⟨vp, hvp, rfl⟩ := hI.hq 0 _ 19 _ rfl rfl rfl (dp hdep 0 rfl rfl)
        exact hI.pq hD hls rfl rfl rfl _ (run_moveQ (.inr rfl) (eval_of hvp) wn) (.val (.int .i64 (k : Int))) rfl rfl rfl hK'
      · obtain rfl := Option.some.inj ho
        obtain ⟨vp, hvp, rfl⟩ := hI.hq 2 _ 21 _ rfl rfl rfl (dp hdep 0 rfl rfl)
        exact hI.pq hD hls rfl rfl rfl _ (run_moveQ (.inr rfl) (eval_of hvp) wn) (.val (.int .i64 (ordL.getD k 0))) rfl rfl rfl hK'
    intro an w5 hI
    obtain ⟨vr4_0, hvr4_0, rfl⟩ := hI.hq 0 _ 19 _ rfl rfl rfl rfl
    obtain ⟨vr4_1, hvr4_1, rfl⟩ := hI.hq 1 _ 20 _ rfl rfl rfl rfl
    obtain ⟨vr4_2, hvr4_2, rfl⟩ := hI.hq 2 _ 21 _ rfl rfl rfl rfl
    obtain ⟨vr4_3, hvr4_3, rfl⟩ := hI.hq 3 _ 6 _ rfl rfl rfl rfl
    obtain ⟨vr4_4, hvr4_4, rfl⟩ := hI.hq 4 _ 7 _ rfl rfl rfl rfl
    have hupd := hI.upd
    have ha := hI.act [(19, .int .i64 (k : Int)), (20, .pointer (some ⟨go, 1 * k, none⟩)), (21, .int .i64 (ordL.getD k 0)), (6, .int .i64 (k : Int)), (7, .int .i64 (ordL.getD k 0))] (by simp [hvr4_0, hvr4_1, hvr4_2, hvr4_3, hvr4_4]) (by kernel_rfl)
    clear hI hvr4_0 hvr4_1 hvr4_2 hvr4_3 hvr4_4
    subst ha
    simp only [List.foldl_cons, List.foldl_nil, List.setIfInBounds_toArray, List.set_cons_zero, List.set_cons_succ]
    have Bxr0y0_4 := hupd.keep Bxr0y0_3
    have Bxr0y1_4 := hupd.keep Bxr0y1_3
    have Bxr2y0_4 := hupd.keep Bxr2y0_3
    have Bord_4 := hupd.keep Bord_3
    have HU4 := hh (HU3.out.trans hupd)
    clear hupd
    refine wpOps_nil ?_
    refine hK10 _ _ ?_
    clear hK10
    refine wp_region_qSD 4 #[true, true, true, true, false] [4] ([.val (.int .i64 (k : Int)), .val (.int .i64 (ordL.getD k 0)), .val (.int .u8 (ordL.getD k 0)), .val (.pointer (some ⟨br2_0, 0 + k, none⟩)), .val undef] : List SQ) (by kernel_rfl) (by kernel_rfl) (by kernel_rfl) (by kernel_rfl) ?_ ?_
    · intro i o listed an wn ho hls hst hun hdep hI hD hpre K' hK'
      rcases slot_cases (l := [0, 1, 2, 3]) rfl ho hst with rfl | rfl | rfl | rfl | ⟨⟨⟩⟩
      · obtain rfl := Option.some.inj ho
        have hvp : an.eval (.tmp 6) = .int .i64 (k : Int) := hI.oq (by kernel_rfl) rfl
        exact hI.pq hD hls rfl rfl rfl _ (run_moveQ (.inl rfl) hvp wn) (.val (.int .i64 (k : Int))) rfl rfl rfl hK'
      · obtain rfl := Option.some.inj ho
        have hvp : an.eval (.tmp 7) = .int .i64 (ordL.getD k 0) := hI.oq (by kernel_rfl) rfl
        exact hI.pq hD hls rfl rfl rfl _ (run_moveQ (.inl rfl) hvp wn) (.val (.int .i64 (ordL.getD k 0))) rfl rfl rfl hK'
      · obtain rfl := Option.some.inj ho
        obtain ⟨vp, hvp, rfl⟩ := hI.hq 1 _ 23 _ rfl rfl rfl (dp hdep 0 rfl rfl)
        exact hI.pq hD hls rfl rfl rfl _ (run_conv rfl ⟨_, Tryd.underlying3⟩ Tryd.underlying5 (eval_of hvp) (IntWalk.u8_in _ (u8_of (ordL_digs.get (B := 256) (by decide) k))) wn) (.val (.int .u8 (ordL.getD k 0))) rfl rfl rfl hK'
      · obtain rfl := Option.some.inj ho
        have hvp : an.eval (.tmp 5) = ptrTo br2_0 := hI.oq (by kernel_rfl) rfl
        obtain ⟨vq, hvq, rfl⟩ := hI.hq 0 _ 22 _ rfl rfl rfl (dp hdep 0 rfl rfl)
        exact hI.pq hD hls rfl rfl rfl _ (run_adr (off := 0) (i := k) rfl Tryd.underlying23 size5 hvp (eval_of hvq) (by omega) wn) (.val (.pointer (some ⟨br2_0, 0 + k, none⟩))) rfl rfl rfl hK'
    intro an w6 hI
    obtain ⟨vr5_0, hvr5_0, rfl⟩ := hI.hq 0 _ 22 _ rfl rfl rfl rfl
    obtain ⟨vr5_1, hvr5_1, rfl⟩ := hI.hq 1 _ 23 _ rfl rfl rfl rfl
    obtain ⟨vr5_2, hvr5_2, rfl⟩ := hI.hq 2 _ 24 _ rfl rfl rfl rfl
    obtain ⟨vr5_3, hvr5_3, rfl⟩ := hI.hq 3 _ 25 _ rfl rfl rfl rfl
    have hupd := hI.upd
    have ha := hI.act [(22, .int .i64 (k : Int)), (23, .int .i64 (ordL.getD k 0)), (24, .int .u8 (ordL.getD k 0)), (25, .pointer (some ⟨br2_0, 0 + k, none⟩))] (by simp [hvr5_0, hvr5_1, hvr5_2, hvr5_3]) (by kernel_rfl)
    clear hI hvr5_0 hvr5_1 hvr5_2 hvr5_3
    subst ha
    simp only [List.foldl_cons, List.foldl_nil, List.setIfInBounds_toArray, List.set_cons_zero, List.set_cons_succ]
    have Bxr0y0_5 := hupd.keep Bxr0y0_4
    have Bxr0y1_5 := hupd.keep Bxr0y1_4
    have Bxr2y0_5 := hupd.keep Bxr2y0_4
    have Bord_5 := hupd.keep Bord_4
    have HU5 := hh (HU4.out.trans hupd)
    clear hupd
    refine wpOps_storeB 4 rfl rfl rfl 5 (.tmp 25) (.tmp 24) rfl size5 br2_0 (0 + k) rfl (ordL.getD k 0) rfl 23 (ordF k) Bxr2y0_5.out (by rw [(ordF_length _)]; omega) ?_
    rw [Nat.zero_add]
    intro ws5_0 hs5_0 hus5_0
    have Bxr0y0_s5_0 := hus5_0.keepS Bxr0y0_5 (fun e => hner2_0_Bxr0y0_1.out e.symm)
    have Bxr0y1_s5_0 := hus5_0.keepS Bxr0y1_5 (fun e => hner2_0_Bxr0y1_1.out e.symm)
    have Bord_s5_0 := hus5_0.keepS Bord_5 (fun e => hne_go_xr2y0.out e)
    have Bxr2y0_s5_0 := hh hs5_0
    have HU5_0 := hh (HU5.out.step hus5_0 (fun i hi h => absurd hi (Nat.not_lt.2 (h.symm ▸ hger2_0.out))))
    clear hs5_0 hus5_0
    refine wpOps_nil ?_
    refine hK9 _ _ ?_
    clear hK9
    have hq6_0 : IntKind.wrap .i64 ((k : Int) + 1) = (k : Int) + 1 := IntWalk.i64_in _ (by omega)
    refine wp_region_qSD 2 #[true, true] [] ([.val (.int .i64 ((k : Int) + 1)), .val (.int .i64 ((k : Int) + 1))] : List SQ) (by kernel_rfl) (by kernel_rfl) (by kernel_rfl) (by kernel_rfl) ?_ ?_
    · intro i o listed an wn ho hls hst hun hdep hI hD hpre K' hK'
      rcases slot_cases (l := [0, 1]) rfl ho hst with rfl | rfl | ⟨⟨⟩⟩
      · obtain rfl := Option.some.inj ho
        have hvp : an.eval (.tmp 17) = .int .i64 (k : Int) := hI.oldS hpre (by kernel_rfl) rfl
        exact hI.pq hD hls rfl rfl rfl _ (run_add rfl hvp rfl hq6_0 wn) (.val (.int .i64 ((k : Int) + 1))) rfl rfl rfl hK'
      · obtain rfl := Option.some.inj ho
        obtain ⟨vp, hvp, rfl⟩ := hI.hq 0 _ 26 _ rfl rfl rfl (dp hdep 0 rfl rfl)
        exact hI.pq hD hls rfl rfl rfl _ (run_moveQ (.inl rfl) (eval_of hvp) wn) (.val (.int .i64 ((k : Int) + 1))) rfl rfl rfl hK'
    intro an w7 hI
    obtain ⟨vr6_0, hvr6_0, rfl⟩ := hI.hq 0 _ 26 _ rfl rfl rfl rfl
    obtain ⟨vr6_1, hvr6_1, rfl⟩ := hI.hq 1 _ 17 _ rfl rfl rfl rfl
    have hupd := hI.upd
    have ha := hI.act [(26, .int .i64 ((k : Int) + 1)), (17, .int .i64 ((k : Int) + 1))] (by simp [hvr6_0, hvr6_1]) (by kernel_rfl)
    clear hI hvr6_0 hvr6_1
    subst ha
    simp only [List.foldl_cons, List.foldl_nil, List.setIfInBounds_toArray, List.set_cons_zero, List.set_cons_succ]
    have Bxr0y0_6 := hupd.keep Bxr0y0_s5_0
    have Bxr0y1_6 := hupd.keep Bxr0y1_s5_0
    have Bxr2y0_6 := hupd.keep Bxr2y0_s5_0
    have Bord_6 := hupd.keep Bord_s5_0
    have HU6 := hh (HU5_0.out.trans hupd)
    clear hupd
    refine wpOps_nil ?_
    exact ⟨⟨(k + 1), _, _, _, _, _, _, _, _, _, _, _, Nat.succ_le_of_lt Hlt6.out, rfl, HU6.out, (by rw [show (ordF (k + 1)) = ((ordF k).set k (ordL.getD k 0)) from (ordF_succ Hlt6.out)]; exact Bxr2y0_6.out), Bxr0y0_6.out, Bxr0y1_6.out, Bord_6.out⟩, by show (32) - ((k : Int) + 1).toNat < (32) - (k : Int).toNat; have := Hlt6.out; omega⟩
  obtain rfl : k = 32 := by omega
  clear hlt
  have Bxr2y0_l6e := hh (show Blk _ _ _ (numsA .u8 ordL) from ordF_all ▸ Bxr2y0_l6.out)
  refine wp_seq_k fun K11 hK11 => ?_
  have hq7_0 : decide (((((32 : Nat) : Int) : Int) < ((32 : Nat) : Int) : Prop)) = false := decide_eq_false (by omega)
  refine wp_region_qSD 1 #[true] [] ([.val (.bool false)] : List SQ) (by kernel_rfl) (by kernel_rfl) (by kernel_rfl) (by kernel_rfl) ?_ ?_
  · intro i o listed an wn ho hls hst hun hdep hI hD hpre K' hK'
    rcases slot_cases (l := [0]) rfl ho hst with rfl | ⟨⟨⟩⟩
    · obtain rfl := Option.some.inj ho
      have hvp : an.eval (.tmp 17) = .int .i64 ((32 : Nat) : Int) := hI.oq (by kernel_rfl) rfl
      have hvq : an.eval (.tmp 16) = .int .i64 ((32 : Nat) : Int) := hI.oq (by kernel_rfl) rfl
      exact hI.pq hD hls rfl rfl rfl _ (run_lss rfl hvp hvq hq7_0 wn) (.val (.bool false)) rfl rfl rfl hK'
  intro an w8 hI
  obtain ⟨vr7_0, hvr7_0, rfl⟩ := hI.hq 0 _ 18 _ rfl rfl rfl rfl
  have hupd := hI.upd
  have ha := hI.act [(18, .bool false)] (by simp [hvr7_0]) (by kernel_rfl)
  clear hI hvr7_0
  subst ha
  simp only [List.foldl_cons, List.foldl_nil, List.setIfInBounds_toArray, List.set_cons_zero, List.set_cons_succ]
  have Bxr0y0_7 := hupd.keep Bxr0y0_l6
  have Bxr0y1_7 := hupd.keep Bxr0y1_l6
  have Bxr2y0_7 := hupd.keep Bxr2y0_l6e
  have Bord_7 := hupd.keep Bord_l6
  have HU7 := hh (HUl6.out.trans hupd)
  clear hupd
  refine wpOps_nil ?_
  refine hK11 _ _ ?_
  clear hK11
  refine wp_seq_k fun K12 hK12 => ?_
  refine wp_cond_false rfl ?_
  refine wp_exit_then ?_
  refine hK4 _ _ ?_
  clear hK4
  refine wp_seq_k fun K13 hK13 => ?_
  refine wp_region_qD #[true, true, true, true, false] ([.like (IsC 20 RP [some eB]), .val (.agg (numsA .u8 a)), .like (IsC 20 RP [some (eB.times (expo a))]), .blk ptrTo 41 (Ch 20 RP [none]), .val undef] : List SQ) (by kernel_rfl) (by kernel_rfl) (by kernel_rfl) (by kernel_rfl) ?_ ?_
  · intro i o listed an wn ho hls hst hun hdep hI hD K' hK'
    rcases slot_cases (l := [0, 1, 2, 3]) rfl ho hst with rfl | rfl | rfl | rfl | ⟨⟨⟩⟩
    · obtain rfl := Option.some.inj ho
      exact hI.cq hD hls rfl rfl rfl 34 #[] _ rfl #[] (by simp) (run_enter Tryd.func34 (by kernel_rfl) (by kernel_rfl)) (.like (IsC 20 RP [some eB])) rfl rfl ((baseR _ ).mono fun _ _ h => h.sq) hK'
    · obtain rfl := Option.some.inj ho
      have hvp : an.eval (.tmp 2) = ptrTo br0_0 := hI.oq (by kernel_rfl) rfl
      exact hI.pq hD hls rfl rfl rfl _ (run_loadQ rfl hvp wn (hI.upd.keepD Bxr0y0_7).out Tryd.underlying23 rfl sizeKey (by rw [numsA_size, ha]; omega)) (.val (.agg (numsA .u8 a))) rfl (congrArg Value.agg (extract_all _ 32 (by rw [numsA_size]; exact ha))) rfl hK'
    · obtain rfl := Option.some.inj ho
      obtain ⟨vp, hvp, ap, rfl, hCp⟩ := hI.hq 0 _ 27 _ rfl rfl rfl (dp hdep 0 rfl rfl)
      obtain ⟨vq, hvq, rfl⟩ := hI.hq 1 _ 28 _ rfl rfl rfl (dp hdep 1 rfl rfl)
      exact hI.cq hD hls rfl rfl rfl 36 #[.tmp 27, .tmp 28] _ rfl #[.agg ap, .agg (numsA .u8 a)] (by simp [eval_of hvp, eval_of hvq]) (run_enter Tryd.func36 (by kernel_rfl) (by kernel_rfl)) (.like (IsC 20 RP [some (eB.times (expo a))])) rfl rfl ((multiplyR _ (HT.out.upd (HU7.out.drew.trans hI.upd)) hCp ha da).mono fun _ _ h => h.sq) hK'
    · obtain rfl := Option.some.inj ho
      exact hI.newQ hD hls (Nat.le_refl _) (newsQ_spec (l := [3]) (by kernel_rfl) ⟨⟨_, _, rfl⟩, trivial⟩) rfl rfl rfl 41 zPt _ (run_allocQ rfl zPt_run wn) rfl zPt_p hK'
  intro fuel an w9 hf hI
  obtain ⟨vr8_0, hvr8_0, ar8_0, rfl, hCr8_0⟩ := hI.hq 0 _ 27 _ rfl rfl rfl rfl
  obtain ⟨vr8_1, hvr8_1, rfl⟩ := hI.hq 1 _ 28 _ rfl rfl rfl rfl
  obtain ⟨vr8_2, hvr8_2, ar8_2, rfl, hCr8_2⟩ := hI.hq 2 _ 29 _ rfl rfl rfl rfl
  obtain ⟨vr8_3, hvr8_3, br8_3, zr8_3, rfl, hnr8_3, hbr8_3, hzr8_3⟩ := hI.hq 3 _ 8 _ rfl rfl rfl rfl
  have hupd := hI.upd
  have ha := hI.act [(27, .agg ar8_0), (28, .agg (numsA .u8 a)), (29, .agg ar8_2), (8, ptrTo br8_3)] (by simp [hvr8_0, hvr8_1, hvr8_2, hvr8_3]) (by kernel_rfl)
  clear hI hvr8_0 hvr8_1 hvr8_2 hvr8_3
  subst ha
  simp only [List.foldl_cons, List.foldl_nil, List.setIfInBounds_toArray, List.set_cons_zero, List.set_cons_succ]
  have hner8_3_Bxr0y0_7 := apartB Bxr0y0_7 hnr8_3
  have hner8_3_Bxr0y1_7 := apartB Bxr0y1_7 hnr8_3
  have hner8_3_Bxr2y0_7 := apartB Bxr2y0_7 hnr8_3
  have hner8_3_Bord_7 := apartB Bord_7 hnr8_3
  have hger8_3 := geB HU7 hnr8_3
  have Bxr0y0_8 := hupd.keepD Bxr0y0_7
  have Bxr0y1_8 := hupd.keepD Bxr0y1_7
  have Bxr2y0_8 := hupd.keepD Bxr2y0_7
  have Bord_8 := hupd.keepD Bord_7
  have Bxr8y3 := hh hbr8_3
  have HU8 := hh (HU7.out.drew.trans hupd)
  clear hupd
  have hf0 : left #[true, true, true, true, false] 5 = 1 := by kernel_rfl
  have hf1 : left #[true, true, true, true, false] 5 ≤ fuel := hf
  obtain ⟨fu, rfl⟩ : ∃ fu, fuel = fu + 1 := ⟨fuel - 1, by omega⟩
  clear hf hf0 hf1
  refine wpAny_storeQ 4 rfl (by kernel_rfl) rfl rfl 41 (.tmp 8) (.tmp 29) rfl br8_3 0 20 rfl ar8_2 rfl 41 zr8_3 Bxr8y3.out szPt hCr8_2.size (by rw [hzr8_3.size]; exact Nat.le_of_ble_eq_true rfl) hCr8_2.one' ?_
  intro ws8_0 hs8_0 hus8_0
  rw [splice_all _ _ 20 hzr8_3.size hCr8_2.size] at hs8_0
  have Bxr0y0_s8_0 := hus8_0.keepS Bxr0y0_8 (fun e => hner8_3_Bxr0y0_7.out e.symm)
  have Bxr0y1_s8_0 := hus8_0.keepS Bxr0y1_8 (fun e => hner8_3_Bxr0y1_7.out e.symm)
  have Bxr2y0_s8_0 := hus8_0.keepS Bxr2y0_8 (fun e => hner8_3_Bxr2y0_7.out e.symm)
  have Bord_s8_0 := hus8_0.keepS Bord_8 (fun e => hner8_3_Bord_7.out e.symm)
  have Bxr8y3_s8_0 := hh hs8_0
  have HU8_0 := hh (HU8.out.step hus8_0 (fun i hi h => absurd hi (Nat.not_lt.2 (h.symm ▸ hger8_3.out))))
  clear hs8_0 hus8_0
  refine wpAny_done (by kernel_rfl) ?_ _
  refine hK13 _ _ ?_
  clear hK13
  refine wp_seq_k fun K14 hK14 => ?_
  refine wp_seq_k fun K15 hK15 => ?_
  refine wp_region_qSD 6 #[true, true, true, true, true, true] [] ([.val (.agg ar8_2), .val (.agg (numsA .u8 ordL)), .like (IsC 20 RP [some ((eB.times (expo a)).times (expo ordL))]), .like (IsC 20 RP [some EP.nil]), .val (.bool true), .val (.bool false)] : List SQ) (by kernel_rfl) (by kernel_rfl) (by kernel_rfl) (by kernel_rfl) ?_ ?_
  · intro i o listed an wn ho hls hst hun hdep hI hD hpre K' hK'
    rcases slot_cases (l := [0, 1, 2, 3, 4, 5]) rfl ho hst with rfl | rfl | rfl | rfl | rfl | rfl | ⟨⟨⟩⟩
    · obtain rfl := Option.some.inj ho
      have hvp : an.eval (.tmp 8) = ptrTo br8_3 := hI.oq (by kernel_rfl) rfl
      exact hI.pq hD hls rfl rfl rfl _ (run_loadQ rfl hvp wn (hI.upd.keep Bxr8y3_s8_0).out Tryd.underlying41 rfl szPt (by rw [hCr8_2.size]; exact Nat.le_of_ble_eq_true rfl)) (.val (.agg ar8_2)) rfl (congrArg Value.agg (extract_all _ 20 hCr8_2.size)) rfl hK'
    · obtain rfl := Option.some.inj ho
      have hvp : an.eval (.tmp 5) = ptrTo br2_0 := hI.oq (by kernel_rfl) rfl
      exact hI.pq hD hls rfl rfl rfl _ (run_loadQ rfl hvp wn (hI.upd.keep Bxr2y0_s8_0).out Tryd.underlying23 rfl sizeKey (by rw [numsA_size, ordL_length]; omega)) (.val (.agg (numsA .u8 ordL))) rfl (congrArg Value.agg (extract_all _ 32 (by rw [numsA_size]; exact ordL_length))) rfl hK'
    · obtain rfl := Option.some.inj ho
      obtain ⟨vp, hvp, rfl⟩ := hI.hq 0 _ 30 _ rfl rfl rfl (dp hdep 0 rfl rfl)
      obtain ⟨vq, hvq, rfl⟩ := hI.hq 1 _ 31 _ rfl rfl rfl (dp hdep 1 rfl rfl)
      exact hI.cq hD hls rfl rfl rfl 36 #[.tmp 30, .tmp 31] _ rfl #[.agg ar8_2, .agg (numsA .u8 ordL)] (by simp [eval_of hvp, eval_of hvq]) (run_enter Tryd.func36 (by kernel_rfl) (by kernel_rfl)) (.like (IsC 20 RP [some ((eB.times (expo a)).times (expo ordL))])) rfl rfl ((multiplyR _ (HT.out.upd (HU8_0.out.trans hI.upd)) hCr8_2 ordL_length ordL_digs).mono fun _ _ h => h.sq) hK'
    · obtain rfl := Option.some.inj ho
      exact hI.cq hD hls rfl rfl rfl 33 #[] _ rfl #[] (by simp) (run_enter Tryd.func33 (by kernel_rfl) (by kernel_rfl)) (.like (IsC 20 RP [some EP.nil])) rfl rfl ((zeroR _ ).mono fun _ _ h => h.sq) hK'
    · obtain rfl := Option.some.inj ho
      obtain ⟨vp, hvp, ap, rfl, hCp⟩ := hI.hq 2 _ 32 _ rfl rfl rfl (dp hdep 0 rfl rfl)
      obtain ⟨vq, hvq, aq, rfl, hCq⟩ := hI.hq 3 _ 33 _ rfl rfl rfl (dp hdep 1 rfl rfl)
      exact hI.cq hD hls rfl rfl rfl 31 #[.tmp 32, .tmp 33] _ rfl #[.agg ap, .agg aq] (by simp [eval_of hvp, eval_of hvq]) (run_enter Tryd.func31 (by kernel_rfl) (by kernel_rfl)) (.val (.bool true)) rfl rfl ((equalR _ hCp hCq).mono fun _ _ h => ret_val (ret_b h (edEq_t (ord_mult _)))) hK'
    · obtain rfl := Option.some.inj ho
      obtain ⟨vp, hvp, rfl⟩ := hI.hq 4 _ 34 _ rfl rfl rfl (dp hdep 0 rfl rfl)
      exact hI.pq hD hls rfl rfl rfl _ (run_not rfl (eval_of hvp) wn) (.val (.bool false)) rfl rfl rfl hK'
  intro an w10 hI
  obtain ⟨vr9_0, hvr9_0, rfl⟩ := hI.hq 0 _ 30 _ rfl rfl rfl rfl
  obtain ⟨vr9_1, hvr9_1, rfl⟩ := hI.hq 1 _ 31 _ rfl rfl rfl rfl
  obtain ⟨vr9_2, hvr9_2, ar9_2, rfl, hCr9_2⟩ := hI.hq 2 _ 32 _ rfl rfl rfl rfl
  obtain ⟨vr9_3, hvr9_3, ar9_3, rfl, hCr9_3⟩ := hI.hq 3 _ 33 _ rfl rfl rfl rfl
  obtain ⟨vr9_4, hvr9_4, rfl⟩ := hI.hq 4 _ 34 _ rfl rfl rfl rfl
  obtain ⟨vr9_5, hvr9_5, rfl⟩ := hI.hq 5 _ 35 _ rfl rfl rfl rfl
  have hupd := hI.upd
  have ha := hI.act [(30, .agg ar8_2), (31, .agg (numsA .u8 ordL)), (32, .agg ar9_2), (33, .agg ar9_3), (34, .bool true), (35, .bool false)] (by simp [hvr9_0, hvr9_1, hvr9_2, hvr9_3, hvr9_4, hvr9_5]) (by kernel_rfl)
  clear hI hvr9_0 hvr9_1 hvr9_2 hvr9_3 hvr9_4 hvr9_5
  subst ha
  simp only [List.foldl_cons, List.foldl_nil, List.setIfInBounds_toArray, List.set_cons_zero, List.set_cons_succ]
  have Bxr0y0_9 := hupd.keep Bxr0y0_s8_0
  have Bxr0y1_9 := hupd.keep Bxr0y1_s8_0
  have Bxr2y0_9 := hupd.keep Bxr2y0_s8_0
  have Bord_9 := hupd.keep Bord_s8_0
  have Bxr8y3_9 := hupd.keep Bxr8y3_s8_0
  have HU9 := hh (HU8_0.out.trans hupd)
  clear hupd
  refine wpOps_nil ?_
  refine hK15 _ _ ?_
  clear hK15
  refine wp_cond_false rfl ?_
  refine wp_skip ?_
  refine hK14 _ _ ?_
  clear hK14
  refine wp_seq_k fun K16 hK16 => ?_
  refine wp_region_qSD 2 #[true, true, false] [2] ([.val (.agg (numsA .u8 keyO0)), .blk ptrTo 23 (fun z => z = numsA .u8 zeroKL), .val undef] : List SQ) (by kernel_rfl) (by kernel_rfl) (by kernel_rfl) (by kernel_rfl) ?_ ?_
  · intro i o listed an wn ho hls hst hun hdep hI hD hpre K' hK'
    rcases slot_cases (l := [0, 1]) rfl ho hst with rfl | rfl | ⟨⟨⟩⟩
    · obtain rfl := Option.some.inj ho
      exact hI.pq hD hls rfl rfl rfl _ (keyO0_run rfl wn) (.val (.agg (numsA .u8 keyO0))) rfl rfl rfl hK'
    · obtain rfl := Option.some.inj ho
      exact hI.newQ hD hls (Nat.le_refl _) (newsQ_spec (l := [1]) (by kernel_rfl) ⟨⟨_, _, rfl⟩, trivial⟩) rfl rfl rfl 23 _ (fun z => z = numsA .u8 zeroKL) (run_allocQ rfl zeroK_run wn) rfl rfl hK'
  intro an w11 hI
  obtain ⟨vr10_0, hvr10_0, rfl⟩ := hI.hq 0 _ 36 _ rfl rfl rfl rfl
  obtain ⟨vr10_1, hvr10_1, br10_1, zr10_1, rfl, hnr10_1, hbr10_1, hzr10_1⟩ := hI.hq 1 _ 9 _ rfl rfl rfl rfl
  rw [hzr10_1] at hbr10_1
  clear hzr10_1
  have hupd := hI.upd
  have ha := hI.act [(36, .agg (numsA .u8 keyO0)), (9, ptrTo br10_1)] (by simp [hvr10_0, hvr10_1]) (by kernel_rfl)
  clear hI hvr10_0 hvr10_1
  subst ha
  simp only [List.foldl_cons, List.foldl_nil, List.setIfInBounds_toArray, List.set_cons_zero, List.set_cons_succ]
  have hner10_1_Bxr0y0_9 := apartB Bxr0y0_9 hnr10_1
  have hner10_1_Bxr0y1_9 := apartB Bxr0y1_9 hnr10_1
  have hner10_1_Bxr2y0_9 := apartB Bxr2y0_9 hnr10_1
  have hner10_1_Bord_9 := apartB Bord_9 hnr10_1
  have hner10_1_Bxr8y3_9 := apartB Bxr8y3_9 hnr10_1
  have hger10_1 := geB HU9 hnr10_1
  have Bxr0y0_10 := hupd.keep Bxr0y0_9
  have Bxr0y1_10 := hupd.keep Bxr0y1_9
  have Bxr2y0_10 := hupd.keep Bxr2y0_9
  have Bord_10 := hupd.keep Bord_9
  have Bxr8y3_10 := hupd.keep Bxr8y3_9
  have Bxr10y1 := hh hbr10_1
  have HU10 := hh (HU9.out.trans hupd)
  clear hupd
  refine wpOps_storeQ 2 rfl rfl rfl 23 (.tmp 9) (.tmp 36) rfl br10_1 0 32 rfl (numsA .u8 keyO0) rfl 23 (numsA .u8 zeroKL) Bxr10y1.out sizeKey (by rw [numsA_size]; exact keyO0_length) (by rw [(show (numsA _ _).size = 32 by rw [numsA_size]; exact zeroKL_length)]; exact Nat.le_of_ble_eq_true rfl) (numsA_one _ _) ?_
  intro ws10_0 hs10_0 hus10_0
  rw [splice_all _ _ 32 (show (numsA _ _).size = 32 by rw [numsA_size]; exact zeroKL_length) (by rw [numsA_size]; exact keyO0_length)] at hs10_0
  have Bxr0y0_s10_0 := hus10_0.keepS Bxr0y0_10 (fun e => hner10_1_Bxr0y0_9.out e.symm)
  have Bxr0y1_s10_0 := hus10_0.keepS Bxr0y1_10 (fun e => hner10_1_Bxr0y1_9.out e.symm)
  have Bxr2y0_s10_0 := hus10_0.keepS Bxr2y0_10 (fun e => hner10_1_Bxr2y0_9.out e.symm)
  have Bord_s10_0 := hus10_0.keepS Bord_10 (fun e => hner10_1_Bord_9.out e.symm)
  have Bxr8y3_s10_0 := hus10_0.keepS Bxr8y3_10 (fun e => hner10_1_Bxr8y3_9.out e.symm)
  have Bxr10y1_s10_0 := hh hs10_0
  have HU10_0 := hh (HU10.out.step hus10_0 (fun i hi h => absurd hi (Nat.not_lt.2 (h.symm ▸ hger10_1.out))))
  clear hs10_0 hus10_0
  refine wpOps_nil ?_
  refine hK16 _ _ ?_
  clear hK16
  refine wp_seq_k fun K17 hK17 => ?_
  refine wp_region_qD #[true, true, true, true, true, true, true, true, true, true, false, false] ([.val (.agg (numsA .u8 a)), .val (.agg (numsA .u8 keyO0)), .val (.agg (numsA .u8 b)), .val (.agg (numsA .u8 (mulAddL a keyO0 b))), .val (.agg (numsA .u8 a)), .val (.agg (numsA .u8 b)), .val (.agg (numsA .u8 zeroKL)), .val (.agg (numsA .u8 (mulAddL a b zeroKL))), .blk ptrTo 23 (fun z => z = numsA .u8 zeroKL), .blk ptrTo 23 (fun z => z = numsA .u8 zeroKL), .val undef, .val undef] : List SQ) (by kernel_rfl) (by kernel_rfl) (by kernel_rfl) (by kernel_rfl) ?_ ?_
  · intro i o listed an wn ho hls hst hun hdep hI hD K' hK'
    rcases slot_cases (l := [0, 1, 2, 3, 4, 5, 6, 7, 8, 9]) rfl ho hst with rfl | rfl | rfl | rfl | rfl | rfl | rfl | rfl | rfl | rfl | ⟨⟨⟩⟩
    · obtain rfl := Option.some.inj ho
      have hvp : an.eval (.tmp 2) = ptrTo br0_0 := hI.oq (by kernel_rfl) rfl
      exact hI.pq hD hls rfl rfl rfl _ (run_loadQ rfl hvp wn (hI.upd.keepD Bxr0y0_s10_0).out Tryd.underlying23 rfl sizeKey (by rw [numsA_size, ha]; omega)) (.val (.agg (numsA .u8 a))) rfl (congrArg Value.agg (extract_all _ 32 (by rw [numsA_size]; exact ha))) rfl hK'
    · obtain rfl := Option.some.inj ho
      have hvp : an.eval (.tmp 9) = ptrTo br10_1 := hI.oq (by kernel_rfl) rfl
      exact hI.pq hD hls rfl rfl rfl _ (run_loadQ rfl hvp wn (hI.upd.keepD Bxr10y1_s10_0).out Tryd.underlying23 rfl sizeKey (by rw [numsA_size, keyO0_length]; omega)) (.val (.agg (numsA .u8 keyO0))) rfl (congrArg Value.agg (extract_all _ 32 (by rw [numsA_size]; exact keyO0_length))) rfl hK'
    · obtain rfl := Option.some.inj ho
      have hvp : an.eval (.tmp 3) = ptrTo br0_1 := hI.oq (by kernel_rfl) rfl
      exact hI.pq hD hls rfl rfl rfl _ (run_loadQ rfl hvp wn (hI.upd.keepD Bxr0y1_s10_0).out Tryd.underlying23 rfl sizeKey (by rw [numsA_size, hb]; omega)) (.val (.agg (numsA .u8 b))) rfl (congrArg Value.agg (extract_all _ 32 (by rw [numsA_size]; exact hb))) rfl hK'
    · obtain rfl := Option.some.inj ho
      obtain ⟨vp, hvp, rfl⟩ := hI.hq 0 _ 37 _ rfl rfl rfl (dp hdep 0 rfl rfl)
      obtain ⟨vq, hvq, rfl⟩ := hI.hq 1 _ 38 _ rfl rfl rfl (dp hdep 1 rfl rfl)
      obtain ⟨vr, hvr, rfl⟩ := hI.hq 2 _ 39 _ rfl rfl rfl (dp hdep 2 rfl rfl)
      exact hI.cq hD hls rfl rfl rfl 40 #[.tmp 37, .tmp 38, .tmp 39] _ rfl #[.agg (numsA .u8 a), .agg (numsA .u8 keyO0), .agg (numsA .u8 b)] (by simp [eval_of hvp, eval_of hvq, eval_of hvr]) (run_enter Tryd.func40 (by kernel_rfl) (by kernel_rfl)) (.val (.agg (numsA .u8 (mulAddL a keyO0 b)))) rfl rfl ((mulAddR _ (HS.out.upd (HU10_0.out.drew.trans hI.upd) (fun h => h)) ha da keyO0_length keyO0_digs hb db).mono fun _ _ h => ret_val h) hK'
    · obtain rfl := Option.some.inj ho
      have hvp : an.eval (.tmp 2) = ptrTo br0_0 := hI.oq (by kernel_rfl) rfl
      exact hI.pq hD hls rfl rfl rfl _ (run_loadQ rfl hvp wn (hI.upd.keepD Bxr0y0_s10_0).out Tryd.underlying23 rfl sizeKey (by rw [numsA_size, ha]; omega)) (.val (.agg (numsA .u8 a))) rfl (congrArg Value.agg (extract_all _ 32 (by rw [numsA_size]; exact ha))) rfl hK'
    · obtain rfl := Option.some.inj ho
      have hvp : an.eval (.tmp 3) = ptrTo br0_1 := hI.oq (by kernel_rfl) rfl
      exact hI.pq hD hls rfl rfl rfl _ (run_loadQ rfl hvp wn (hI.upd.keepD Bxr0y1_s10_0).out Tryd.underlying23 rfl sizeKey (by rw [numsA_size, hb]; omega)) (.val (.agg (numsA .u8 b))) rfl (congrArg Value.agg (extract_all _ 32 (by rw [numsA_size]; exact hb))) rfl hK'
    · obtain rfl := Option.some.inj ho
      exact hI.pq hD hls rfl rfl rfl _ (zeroKL_bld rfl wn) (.val (.agg (numsA .u8 zeroKL))) rfl rfl rfl hK'
    · obtain rfl := Option.some.inj ho
      obtain ⟨vp, hvp, rfl⟩ := hI.hq 4 _ 41 _ rfl rfl rfl (dp hdep 0 rfl rfl)
      obtain ⟨vq, hvq, rfl⟩ := hI.hq 5 _ 42 _ rfl rfl rfl (dp hdep 1 rfl rfl)
      obtain ⟨vr, hvr, rfl⟩ := hI.hq 6 _ 43 _ rfl rfl rfl (dp hdep 2 rfl rfl)
      exact hI.cq hD hls rfl rfl rfl 40 #[.tmp 41, .tmp 42, .tmp 43] _ rfl #[.agg (numsA .u8 a), .agg (numsA .u8 b), .agg (numsA .u8 zeroKL)] (by simp [eval_of hvp, eval_of hvq, eval_of hvr]) (run_enter Tryd.func40 (by kernel_rfl) (by kernel_rfl)) (.val (.agg (numsA .u8 (mulAddL a b zeroKL)))) rfl rfl ((mulAddR _ (HS.out.upd (HU10_0.out.drew.trans hI.upd) (fun h => h)) ha da hb db zeroKL_length zeroKL_digs).mono fun _ _ h => ret_val h) hK'
    · obtain rfl := Option.some.inj ho
      exact hI.newQ hD hls (Nat.le_refl _) (newsQ_spec (l := [8, 9]) (by kernel_rfl) ⟨⟨_, _, rfl⟩, ⟨_, _, rfl⟩, trivial⟩) rfl rfl rfl 23 _ (fun z => z = numsA .u8 zeroKL) (run_allocQ rfl zeroK_run wn) rfl rfl hK'
    · obtain rfl := Option.some.inj ho
      exact hI.newQ hD hls (Nat.le_refl _) (newsQ_spec (l := [8, 9]) (by kernel_rfl) ⟨⟨_, _, rfl⟩, ⟨_, _, rfl⟩, trivial⟩) rfl rfl rfl 23 _ (fun z => z = numsA .u8 zeroKL) (run_allocQ rfl zeroK_run wn) rfl rfl hK'
  intro fuel an w12 hf hI
  obtain ⟨vr11_0, hvr11_0, rfl⟩ := hI.hq 0 _ 37 _ rfl rfl rfl rfl
  obtain ⟨vr11_1, hvr11_1, rfl⟩ := hI.hq 1 _ 38 _ rfl rfl rfl rfl
  obtain ⟨vr11_2, hvr11_2, rfl⟩ := hI.hq 2 _ 39 _ rfl rfl rfl rfl
  obtain ⟨vr11_3, hvr11_3, rfl⟩ := hI.hq 3 _ 40 _ rfl rfl rfl rfl
  obtain ⟨vr11_4, hvr11_4, rfl⟩ := hI.hq 4 _ 41 _ rfl rfl rfl rfl
  obtain ⟨vr11_5, hvr11_5, rfl⟩ := hI.hq 5 _ 42 _ rfl rfl rfl rfl
  obtain ⟨vr11_6, hvr11_6, rfl⟩ := hI.hq 6 _ 43 _ rfl rfl rfl rfl
  obtain ⟨vr11_7, hvr11_7, rfl⟩ := hI.hq 7 _ 44 _ rfl rfl rfl rfl
  obtain ⟨vr11_8, hvr11_8, br11_8, zr11_8, rfl, hnr11_8, hbr11_8, hzr11_8⟩ := hI.hq 8 _ 10 _ rfl rfl rfl rfl
  rw [hzr11_8] at hbr11_8
  clear hzr11_8
  obtain ⟨vr11_9, hvr11_9, br11_9, zr11_9, rfl, hnr11_9, hbr11_9, hzr11_9⟩ := hI.hq 9 _ 11 _ rfl rfl rfl rfl
  rw [hzr11_9] at hbr11_9
  clear hzr11_9
  have hupd := hI.upd
  have hner11_8_r11_9 := hh (show br11_8 ≠ br11_9 from fun e => hI.apart 8 9 _ _ 10 11 (by omega) rfl rfl rfl rfl rfl rfl rfl rfl (by rw [hvr11_8, hvr11_9, e]))
  have ha := hI.act [(37, .agg (numsA .u8 a)), (38, .agg (numsA .u8 keyO0)), (39, .agg (numsA .u8 b)), (40, .agg (numsA .u8 (mulAddL a keyO0 b))), (41, .agg (numsA .u8 a)), (42, .agg (numsA .u8 b)), (43, .agg (numsA .u8 zeroKL)), (44, .agg (numsA .u8 (mulAddL a b zeroKL))), (10, ptrTo br11_8), (11, ptrTo br11_9)] (by simp [hvr11_0, hvr11_1, hvr11_2, hvr11_3, hvr11_4, hvr11_5, hvr11_6, hvr11_7, hvr11_8, hvr11_9]) (by kernel_rfl)
  clear hI hvr11_0 hvr11_1 hvr11_2 hvr11_3 hvr11_4 hvr11_5 hvr11_6 hvr11_7 hvr11_8 hvr11_9
  subst ha
  simp only [List.foldl_cons, List.foldl_nil, List.setIfInBounds_toArray, List.set_cons_zero, List.set_cons_succ]
  have hner11_8_Bxr0y0_s10_0 := apartB Bxr0y0_s10_0 hnr11_8
  have hner11_8_Bxr0y1_s10_0 := apartB Bxr0y1_s10_0 hnr11_8
  have hner11_8_Bxr2y0_s10_0 := apartB Bxr2y0_s10_0 hnr11_8
  have hner11_8_Bord_s10_0 := apartB Bord_s10_0 hnr11_8
  have hner11_8_Bxr8y3_s10_0 := apartB Bxr8y3_s10_0 hnr11_8
  have hner11_8_Bxr10y1_s10_0 := apartB Bxr10y1_s10_0 hnr11_8
  have hger11_8 := geB HU10_0 hnr11_8
  have hner11_9_Bxr0y0_s10_0 := apartB Bxr0y0_s10_0 hnr11_9
  have hner11_9_Bxr0y1_s10_0 := apartB Bxr0y1_s10_0 hnr11_9
  have hner11_9_Bxr2y0_s10_0 := apartB Bxr2y0_s10_0 hnr11_9
  have hner11_9_Bord_s10_0 := apartB Bord_s10_0 hnr11_9
  have hner11_9_Bxr8y3_s10_0 := apartB Bxr8y3_s10_0 hnr11_9
  have hner11_9_Bxr10y1_s10_0 := apartB Bxr10y1_s10_0 hnr11_9
  have hger11_9 := geB HU10_0 hnr11_9
  have Bxr0y0_11 := hupd.keepD Bxr0y0_s10_0
  have Bxr0y1_11 := hupd.keepD Bxr0y1_s10_0
  have Bxr2y0_11 := hupd.keepD Bxr2y0_s10_0
  have Bord_11 := hupd.keepD Bord_s10_0
  have Bxr8y3_11 := hupd.keepD Bxr8y3_s10_0
  have Bxr10y1_11 := hupd.keepD Bxr10y1_s10_0
  have Bxr11y8 := hh hbr11_8
  have Bxr11y9 := hh hbr11_9
  have HU11 := hh (HU10_0.out.drew.trans hupd)
  clear hupd
  have hf0 : left #[true, true, true, true, true, true, true, true, true, true, false, false] 12 = 2 := by kernel_rfl
  have hf1 : left #[true, true, true, true, true, true, true, true, true, true, false, false] 12 ≤ fuel := hf
  obtain ⟨fu, rfl⟩ : ∃ fu, fuel = fu + 2 := ⟨fuel - 2, by omega⟩
  clear hf hf0 hf1
  refine wpAny_storeQ 10 rfl (by kernel_rfl) rfl rfl 23 (.tmp 10) (.tmp 40) rfl br11_8 0 32 rfl (numsA .u8 (mulAddL a keyO0 b)) rfl 23 (numsA .u8 zeroKL) Bxr11y8.out sizeKey (by rw [numsA_size]; exact (mulAddL_length _ _ _)) (by rw [(show (numsA _ _).size = 32 by rw [numsA_size]; exact zeroKL_length)]; exact Nat.le_of_ble_eq_true rfl) (numsA_one _ _) ?_
  intro ws11_0 hs11_0 hus11_0
  rw [splice_all _ _ 32 (show (numsA _ _).size = 32 by rw [numsA_size]; exact zeroKL_length) (by rw [numsA_size]; exact (mulAddL_length _ _ _))] at hs11_0
  have Bxr0y0_s11_0 := hus11_0.keepS Bxr0y0_11 (fun e => hner11_8_Bxr0y0_s10_0.out e.symm)
  have Bxr0y1_s11_0 := hus11_0.keepS Bxr0y1_11 (fun e => hner11_8_Bxr0y1_s10_0.out e.symm)
  have Bxr2y0_s11_0 := hus11_0.keepS Bxr2y0_11 (fun e => hner11_8_Bxr2y0_s10_0.out e.symm)
  have Bord_s11_0 := hus11_0.keepS Bord_11 (fun e => hner11_8_Bord_s10_0.out e.symm)
  have Bxr8y3_s11_0 := hus11_0.keepS Bxr8y3_11 (fun e => hner11_8_Bxr8y3_s10_0.out e.symm)
  have Bxr10y1_s11_0 := hus11_0.keepS Bxr10y1_11 (fun e => hner11_8_Bxr10y1_s10_0.out e.symm)
  have Bxr11y9_s11_0 := hus11_0.keepS Bxr11y9 (fun e => hner11_8_r11_9.out e.symm)
  have Bxr11y8_s11_0 := hh hs11_0
  have HU11_0 := hh (HU11.out.step hus11_0 (fun i hi h => absurd hi (Nat.not_lt.2 (h.symm ▸ hger11_8.out))))
  clear hs11_0 hus11_0
  refine wpAny_storeQ 11 rfl (by kernel_rfl) rfl rfl 23 (.tmp 11) (.tmp 44) rfl br11_9 0 32 rfl (numsA .u8 (mulAddL a b zeroKL)) rfl 23 (numsA .u8 zeroKL) Bxr11y9_s11_0.out sizeKey (by rw [numsA_size]; exact (mulAddL_length _ _ _)) (by rw [(show (numsA _ _).size = 32 by rw [numsA_size]; exact zeroKL_length)]; exact Nat.le_of_ble_eq_true rfl) (numsA_one _ _) ?_
  intro ws11_1 hs11_1 hus11_1
  rw [splice_all _ _ 32 (show (numsA _ _).size = 32 by rw [numsA_size]; exact zeroKL_length) (by rw [numsA_size]; exact (mulAddL_length _ _ _))] at hs11_1
  have Bxr0y0_s11_1 := hus11_1.keepS Bxr0y0_s11_0 (fun e => hner11_9_Bxr0y0_s10_0.out e.symm)
  have Bxr0y1_s11_1 := hus11_1.keepS Bxr0y1_s11_0 (fun e => hner11_9_Bxr0y1_s10_0.out e.symm)
  have Bxr2y0_s11_1 := hus11_1.keepS Bxr2y0_s11_0 (fun e => hner11_9_Bxr2y0_s10_0.out e.symm)
  have Bord_s11_1 := hus11_1.keepS Bord_s11_0 (fun e => hner11_9_Bord_s10_0.out e.symm)
  have Bxr8y3_s11_1 := hus11_1.keepS Bxr8y3_s11_0 (fun e => hner11_9_Bxr8y3_s10_0.out e.symm)
  have Bxr10y1_s11_1 := hus11_1.keepS Bxr10y1_s11_0 (fun e => hner11_9_Bxr10y1_s10_0.out e.symm)
  have Bxr11y8_s11_1 := hus11_1.keepS Bxr11y8_s11_0 (fun e => hner11_8_r11_9.out e)
  have Bxr11y9_s11_1 := hh hs11_1
  have HU11_1 := hh (HU11_0.out.step hus11_1 (fun i hi h => absurd hi (Nat.not_lt.2 (h.symm ▸ hger11_9.out))))
  clear hs11_1 hus11_1
  refine wpAny_done (by kernel_rfl) ?_ _
  refine hK17 _ _ ?_
  clear hK17
  refine wp_seq_k fun K18 hK18 => ?_
  refine wp_region_qD #[true, true, true, true, false] ([.like (IsC 20 RP [some eB]), .val (.agg (numsA .u8 b)), .like (IsC 20 RP [some (eB.times (expo b))]), .blk ptrTo 41 (Ch 20 RP [none]), .val undef] : List SQ) (by kernel_rfl) (by kernel_rfl) (by kernel_rfl) (by kernel_rfl) ?_ ?_
  · intro i o listed an wn ho hls hst hun hdep hI hD K' hK'
    rcases slot_cases (l := [0, 1, 2, 3]) rfl ho hst with rfl | rfl | rfl | rfl | ⟨⟨⟩⟩
    · obtain rfl := Option.some.inj ho
      exact hI.cq hD hls rfl rfl rfl 34 #[] _ rfl #[] (by simp) (run_enter Tryd.func34 (by kernel_rfl) (by kernel_rfl)) (.like (IsC 20 RP [some eB])) rfl rfl ((baseR _ ).mono fun _ _ h => h.sq) hK'
    · obtain rfl := Option.some.inj ho
      have hvp : an.eval (.tmp 3) = ptrTo br0_1 := hI.oq (by kernel_rfl) rfl
      exact hI.pq hD hls rfl rfl rfl _ (run_loadQ rfl hvp wn (hI.upd.keepD Bxr0y1_s11_1).out Tryd.underlying23 rfl sizeKey (by rw [numsA_size, hb]; omega)) (.val (.agg (numsA .u8 b))) rfl (congrArg Value.agg (extract_all _ 32 (by rw [numsA_size]; exact hb))) rfl hK'
    · obtain rfl := Option.some.inj ho
      obtain ⟨vp, hvp, ap, rfl, hCp⟩ := hI.hq 0 _ 45 _ rfl rfl rfl (dp hdep 0 rfl rfl)
      obtain ⟨vq, hvq, rfl⟩ := hI.hq 1 _ 46 _ rfl rfl rfl (dp hdep 1 rfl rfl)
      exact hI.cq hD hls rfl rfl rfl 36 #[.tmp 45, .tmp 46] _ rfl #[.agg ap, .agg (numsA .u8 b)] (by simp [eval_of hvp, eval_of hvq]) (run_enter Tryd.func36 (by kernel_rfl) (by kernel_rfl)) (.like (IsC 20 RP [some (eB.times (expo b))])) rfl rfl ((multiplyR _ (HT.out.upd (HU11_1.out.drew.trans hI.upd)) hCp hb db).mono fun _ _ h => h.sq) hK'
    · obtain rfl := Option.some.inj ho
      exact hI.newQ hD hls (Nat.le_refl _) (newsQ_spec (l := [3]) (by kernel_rfl) ⟨⟨_, _, rfl⟩, trivial⟩) rfl rfl rfl 41 zPt _ (run_allocQ rfl zPt_run wn) rfl zPt_p hK'
  intro fuel an w13 hf hI
  obtain ⟨vr12_0, hvr12_0, ar12_0, rfl, hCr12_0⟩ := hI.hq 0 _ 45 _ rfl rfl rfl rfl
  obtain ⟨vr12_1, hvr12_1, rfl⟩ := hI.hq 1 _ 46 _ rfl rfl rfl rfl
  obtain ⟨vr12_2, hvr12_2, ar12_2, rfl, hCr12_2⟩ := hI.hq 2 _ 47 _ rfl rfl rfl rfl
  obtain ⟨vr12_3, hvr12_3, br12_3, zr12_3, rfl, hnr12_3, hbr12_3, hzr12_3⟩ := hI.hq 3 _ 12 _ rfl rfl rfl rfl
  have hupd := hI.upd
  have ha := hI.act [(45, .agg ar12_0), (46, .agg (numsA .u8 b)), (47, .agg ar12_2), (12, ptrTo br12_3)] (by simp [hvr12_0, hvr12_1, hvr12_2, hvr12_3]) (by kernel_rfl)
  clear hI hvr12_0 hvr12_1 hvr12_2 hvr12_3
  subst ha
  simp only [List.foldl_cons, List.foldl_nil, List.setIfInBounds_toArray, List.set_cons_zero, List.set_cons_succ]
  have hner12_3_Bxr0y0_s11_1 := apartB Bxr0y0_s11_1 hnr12_3
  have hner12_3_Bxr0y1_s11_1 := apartB Bxr0y1_s11_1 hnr12_3
  have hner12_3_Bxr2y0_s11_1 := apartB Bxr2y0_s11_1 hnr12_3
  have hner12_3_Bord_s11_1 := apartB Bord_s11_1 hnr12_3
  have hner12_3_Bxr8y3_s11_1 := apartB Bxr8y3_s11_1 hnr12_3
  have hner12_3_Bxr10y1_s11_1 := apartB Bxr10y1_s11_1 hnr12_3
  have hner12_3_Bxr11y8_s11_1 := apartB Bxr11y8_s11_1 hnr12_3
  have hner12_3_Bxr11y9_s11_1 := apartB Bxr11y9_s11_1 hnr12_3
  have hger12_3 := geB HU11_1 hnr12_3
  have Bxr0y0_12 := hupd.keepD Bxr0y0_s11_1
  have Bxr0y1_12 := hupd.keepD Bxr0y1_s11_1
  have Bxr2y0_12 := hupd.keepD Bxr2y0_s11_1
  have Bord_12 := hupd.keepD Bord_s11_1
  have Bxr8y3_12 := hupd.keepD Bxr8y3_s11_1
  have Bxr10y1_12 := hupd.keepD Bxr10y1_s11_1
  have Bxr11y8_12 := hupd.keepD Bxr11y8_s11_1
  have Bxr11y9_12 := hupd.keepD Bxr11y9_s11_1
  have Bxr12y3 := hh hbr12_3
  have HU12 := hh (HU11_1.out.drew.trans hupd)
  clear hupd
  have hf0 : left #[true, true, true, true, false] 5 = 1 := by kernel_rfl
  have hf1 : left #[true, true, true, true, false] 5 ≤ fuel := hf
  obtain ⟨fu, rfl⟩ : ∃ fu, fuel = fu + 1 := ⟨fuel - 1, by omega⟩
  clear hf hf0 hf1
  refine wpAny_storeQ 4 rfl (by kernel_rfl) rfl rfl 41 (.tmp 12) (.tmp 47) rfl br12_3 0 20 rfl ar12_2 rfl 41 zr12_3 Bxr12y3.out szPt hCr12_2.size (by rw [hzr12_3.size]; exact Nat.le_of_ble_eq_true rfl) hCr12_2.one' ?_
  intro ws12_0 hs12_0 hus12_0
  rw [splice_all _ _ 20 hzr12_3.size hCr12_2.size] at hs12_0
  have Bxr0y0_s12_0 := hus12_0.keepS Bxr0y0_12 (fun e => hner12_3_Bxr0y0_s11_1.out e.symm)
  have Bxr0y1_s12_0 := hus12_0.keepS Bxr0y1_12 (fun e => hner12_3_Bxr0y1_s11_1.out e.symm)
  have Bxr2y0_s12_0 := hus12_0.keepS Bxr2y0_12 (fun e => hner12_3_Bxr2y0_s11_1.out e.symm)
  have Bord_s12_0 := hus12_0.keepS Bord_12 (fun e => hner12_3_Bord_s11_1.out e.symm)
  have Bxr8y3_s12_0 := hus12_0.keepS Bxr8y3_12 (fun e => hner12_3_Bxr8y3_s11_1.out e.symm)
  have Bxr10y1_s12_0 := hus12_0.keepS Bxr10y1_12 (fun e => hner12_3_Bxr10y1_s11_1.out e.symm)
  have Bxr11y8_s12_0 := hus12_0.keepS Bxr11y8_12 (fun e => hner12_3_Bxr11y8_s11_1.out e.symm)
  have Bxr11y9_s12_0 := hus12_0.keepS Bxr11y9_12 (fun e => hner12_3_Bxr11y9_s11_1.out e.symm)
  have Bxr12y3_s12_0 := hh hs12_0
  have HU12_0 := hh (HU12.out.step hus12_0 (fun i hi h => absurd hi (Nat.not_lt.2 (h.symm ▸ hger12_3.out))))
  clear hs12_0 hus12_0
  refine wpAny_done (by kernel_rfl) ?_ _
  refine hK18 _ _ ?_
  clear hK18
  refine wp_seq_k fun K19 hK19 => ?_
  refine wp_region_qD #[true, true, true, true, true, true, true, true, true, true, true, true, true, true, true, true, true, true] ([.like (IsC 20 RP [some eB]), .val (.agg (numsA .u8 (mulAddL a keyO0 b))), .like (IsC 20 RP [some (eB.times (expo (mulAddL a keyO0 b)))]), .val (.agg ar8_2), .val (.agg ar12_2), .blk (fun b => .slice (some ⟨b, 0, none⟩) 2 2) 41 (Ch 20 RP [some (eB.times (expo a)), some (eB.times (expo b))]), .like (IsC 20 RP [some ((eB.times (expo a)).plus (eB.times (expo b)))]), .val (.bool true), .val (.bool true), .like (IsC 20 RP [some eB]), .val (.agg (numsA .u8 (mulAddL a b zeroKL))), .like (IsC 20 RP [some (eB.times (expo (mulAddL a b zeroKL)))]), .val (.agg ar8_2), .val (.agg (numsA .u8 b)), .like (IsC 20 RP [some ((eB.times (expo a)).times (expo b))]), .val (.bool true), .val (.bool true), .val (.bool true)] : List SQ) (by kernel_rfl) (by kernel_rfl) (by kernel_rfl) (by kernel_rfl) ?_ ?_
  · intro i o listed an wn ho hls hst hun hdep hI hD K' hK'
    rcases slot_cases (l := [0, 1, 2, 3, 4, 5, 6, 7, 8, 9, 10, 11, 12, 13, 14, 15, 16, 17]) rfl ho hst with rfl | rfl | rfl | rfl | rfl | rfl | rfl | rfl | rfl | rfl | rfl | rfl | rfl | rfl | rfl | rfl | rfl | rfl | ⟨⟨⟩⟩
    · obtain rfl := Option.some.inj ho
      exact hI.cq hD hls rfl rfl rfl 34 #[] _ rfl #[] (by simp) (run_enter Tryd.func34 (by kernel_rfl) (by kernel_rfl)) (.like (IsC 20 RP [some eB])) rfl rfl ((baseR _ ).mono fun _ _ h => h.sq) hK'
    · obtain rfl := Option.some.inj ho
      have hvp : an.eval (.tmp 10) = ptrTo br11_8 := hI.oq (by kernel_rfl) rfl
      exact hI.pq hD hls rfl rfl rfl _ (run_loadQ rfl hvp wn (hI.upd.keepD Bxr11y8_s12_0).out Tryd.underlying23 rfl sizeKey (by rw [numsA_size, (mulAddL_length _ _ _)]; omega)) (.val (.agg (numsA .u8 (mulAddL a keyO0 b)))) rfl (congrArg Value.agg (extract_all _ 32 (by rw [numsA_size]; exact (mulAddL_length _ _ _)))) rfl hK'
    · obtain rfl := Option.some.inj ho
      obtain ⟨vp, hvp, ap, rfl, hCp⟩ := hI.hq 0 _ 48 _ rfl rfl rfl (dp hdep 0 rfl rfl)
      obtain ⟨vq, hvq, rfl⟩ := hI.hq 1 _ 49 _ rfl rfl rfl (dp hdep 1 rfl rfl)
      exact hI.cq hD hls rfl rfl rfl 36 #[.tmp 48, .tmp 49] _ rfl #[.agg ap, .agg (numsA .u8 (mulAddL a keyO0 b))] (by simp [eval_of hvp, eval_of hvq]) (run_enter Tryd.func36 (by kernel_rfl) (by kernel_rfl)) (.like (IsC 20 RP [some (eB.times (expo (mulAddL a keyO0 b)))])) rfl rfl ((multiplyR _ (HT.out.upd (HU12_0.out.drew.trans hI.upd)) hCp (mulAddL_length _ _ _) (mulAddL_digs _ _ _)).mono fun _ _ h => h.sq) hK'
    · obtain rfl := Option.some.inj ho
      have hvp : an.eval (.tmp 8) = ptrTo br8_3 := hI.oq (by kernel_rfl) rfl
      exact hI.pq hD hls rfl rfl rfl _ (run_loadQ rfl hvp wn (hI.upd.keepD Bxr8y3_s12_0).out Tryd.underlying41 rfl szPt (by rw [hCr8_2.size]; exact Nat.le_of_ble_eq_true rfl)) (.val (.agg ar8_2)) rfl (congrArg Value.agg (extract_all _ 20 hCr8_2.size)) rfl hK'
    · obtain rfl := Option.some.inj ho
      have hvp : an.eval (.tmp 12) = ptrTo br12_3 := hI.oq (by kernel_rfl) rfl
      exact hI.pq hD hls rfl rfl rfl _ (run_loadQ rfl hvp wn (hI.upd.keepD Bxr12y3_s12_0).out Tryd.underlying41 rfl szPt (by rw [hCr12_2.size]; exact Nat.le_of_ble_eq_true rfl)) (.val (.agg ar12_2)) rfl (congrArg Value.agg (extract_all _ 20 hCr12_2.size)) rfl hK'
    · obtain rfl := Option.some.inj ho
      obtain ⟨vp, hvp, rfl⟩ := hI.hq 3 _ 51 _ rfl rfl rfl (dp hdep 0 rfl rfl)
      obtain ⟨vq, hvq, rfl⟩ := hI.hq 4 _ 52 _ rfl rfl rfl (dp hdep 1 rfl rfl)
      exact hI.rowQ hD hls (Nat.le_refl _) rfl rfl rfl _ _ _ _ (run_pts2 rfl (eval_of hvp) (eval_of hvq) hCr8_2.size hCr12_2.size wn) rfl (hCr8_2.cat hCr12_2) rfl hK'
    · obtain rfl := Option.some.inj ho
      obtain ⟨vp, hvp, bp, zp, rfl, hnp, hbp, hzp⟩ := hI.hq 5 _ 53 _ rfl rfl rfl (dp hdep 0 rfl rfl)
      exact hI.cq hD hls rfl rfl rfl 28 #[.tmp 53] _ rfl #[.slice (some ⟨bp, 0, none⟩) 2 2] (by simp [eval_of hvp]) (run_enter Tryd.func28 (by kernel_rfl) (by kernel_rfl)) (.like (IsC 20 RP [some ((eB.times (expo a)).plus (eB.times (expo b)))])) rfl rfl ((addR2 _ (HT.out.upd (HU12_0.out.drew.trans hI.upd)) hbp hzp).mono fun _ _ h => h.sq) hK'
    · obtain rfl := Option.some.inj ho
      obtain ⟨vp, hvp, ap, rfl, hCp⟩ := hI.hq 2 _ 50 _ rfl rfl rfl (dp hdep 0 rfl rfl)
      obtain ⟨vq, hvq, aq, rfl, hCq⟩ := hI.hq 6 _ 54 _ rfl rfl rfl (dp hdep 1 rfl rfl)
      exact hI.cq hD hls rfl rfl rfl 31 #[.tmp 50, .tmp 54] _ rfl #[.agg ap, .agg aq] (by simp [eval_of hvp, eval_of hvq]) (run_enter Tryd.func31 (by kernel_rfl) (by kernel_rfl)) (.val (.bool true)) rfl rfl ((equalR _ hCp hCq).mono fun _ _ h => ret_val (ret_b h (edEq_t (by rw [expo_mulAddL da keyO0_digs db, times_mod _ _ order_base, show expo keyO0 = 1 by decide +kernel, Nat.mul_one, times_add])))) hK'
    · obtain rfl := Option.some.inj ho
      obtain ⟨vp, hvp, rfl⟩ := hI.hq 7 _ 55 _ rfl rfl rfl (dp hdep 0 rfl rfl)
      exact hI.pq hD hls rfl rfl rfl _ (run_moveQ (.inl rfl) (eval_of hvp) wn) (.val (.bool true)) rfl rfl rfl hK'
    · obtain rfl := Option.some.inj ho
      obtain ⟨vg, hvg, rfl⟩ := hI.hq 8 _ 56 _ rfl rfl rfl (dp hdep 1 rfl rfl)
      exact hI.cq hD hls rfl (wanted_of rfl rfl rfl hvg) rfl 34 #[] _ rfl #[] (by simp) (run_enter Tryd.func34 (by kernel_rfl) (by kernel_rfl)) (.like (IsC 20 RP [some eB])) rfl rfl ((baseR _ ).mono fun _ _ h => h.sq) hK'
    · obtain rfl := Option.some.inj ho
      obtain ⟨vg, hvg, rfl⟩ := hI.hq 8 _ 56 _ rfl rfl rfl (dp hdep 0 rfl rfl)
      have hvp : an.eval (.tmp 11) = ptrTo br11_9 := hI.oq (by kernel_rfl) rfl
      exact hI.pq hD hls rfl (wanted_of rfl rfl rfl hvg) rfl _ (run_loadQ rfl hvp wn (hI.upd.keepD Bxr11y9_s12_0).out Tryd.underlying23 rfl sizeKey (by rw [numsA_size, (mulAddL_length _ _ _)]; omega)) (.val (.agg (numsA .u8 (mulAddL a b zeroKL)))) rfl (congrArg Value.agg (extract_all _ 32 (by rw [numsA_size]; exact (mulAddL_length _ _ _)))) rfl hK'
    · obtain rfl := Option.some.inj ho
      obtain ⟨vg, hvg, rfl⟩ := hI.hq 8 _ 56 _ rfl rfl rfl (dp hdep 3 rfl rfl)
      obtain ⟨vp, hvp, ap, rfl, hCp⟩ := hI.hq 9 _ 57 _ rfl rfl rfl (dp hdep 0 rfl rfl)
      obtain ⟨vq, hvq, rfl⟩ := hI.hq 10 _ 58 _ rfl rfl rfl (dp hdep 1 rfl rfl)
      exact hI.cq hD hls rfl (wanted_of rfl rfl rfl hvg) rfl 36 #[.tmp 57, .tmp 58] _ rfl #[.agg ap, .agg (numsA .u8 (mulAddL a b zeroKL))] (by simp [eval_of hvp, eval_of hvq]) (run_enter Tryd.func36 (by kernel_rfl) (by kernel_rfl)) (.like (IsC 20 RP [some (eB.times (expo (mulAddL a b zeroKL)))])) rfl rfl ((multiplyR _ (HT.out.upd (HU12_0.out.drew.trans hI.upd)) hCp (mulAddL_length _ _ _) (mulAddL_digs _ _ _)).mono fun _ _ h => h.sq) hK'
    · obtain rfl := Option.some.inj ho
      obtain ⟨vg, hvg, rfl⟩ := hI.hq 8 _ 56 _ rfl rfl rfl (dp hdep 0 rfl rfl)
      have hvp : an.eval (.tmp 8) = ptrTo br8_3 := hI.oq (by kernel_rfl) rfl
      exact hI.pq hD hls rfl (wanted_of rfl rfl rfl hvg) rfl _ (run_loadQ rfl hvp wn (hI.upd.keepD Bxr8y3_s12_0).out Tryd.underlying41 rfl szPt (by rw [hCr8_2.size]; exact Nat.le_of_ble_eq_true rfl)) (.val (.agg ar8_2)) rfl (congrArg Value.agg (extract_all _ 20 hCr8_2.size)) rfl hK'
    · obtain rfl := Option.some.inj ho
      obtain ⟨vg, hvg, rfl⟩ := hI.hq 8 _ 56 _ rfl rfl rfl (dp hdep 0 rfl rfl)
      have hvp : an.eval (.tmp 3) = ptrTo br0_1 := hI.oq (by kernel_rfl) rfl
      exact hI.pq hD hls rfl (wanted_of rfl rfl rfl hvg) rfl _ (run_loadQ rfl hvp wn (hI.upd.keepD Bxr0y1_s12_0).out Tryd.underlying23 rfl sizeKey (by rw [numsA_size, hb]; omega)) (.val (.agg (numsA .u8 b))) rfl (congrArg Value.agg (extract_all _ 32 (by rw [numsA_size]; exact hb))) rfl hK'
    · obtain rfl := Option.some.inj ho
      obtain ⟨vg, hvg, rfl⟩ := hI.hq 8 _ 56 _ rfl rfl rfl (dp hdep 3 rfl rfl)
      obtain ⟨vp, hvp, rfl⟩ := hI.hq 12 _ 60 _ rfl rfl rfl (dp hdep 0 rfl rfl)
      obtain ⟨vq, hvq, rfl⟩ := hI.hq 13 _ 61 _ rfl rfl rfl (dp hdep 1 rfl rfl)
      exact hI.cq hD hls rfl (wanted_of rfl rfl rfl hvg) rfl 36 #[.tmp 60, .tmp 61] _ rfl #[.agg ar8_2, .agg (numsA .u8 b)] (by simp [eval_of hvp, eval_of hvq]) (run_enter Tryd.func36 (by kernel_rfl) (by kernel_rfl)) (.like (IsC 20 RP [some ((eB.times (expo a)).times (expo b))])) rfl rfl ((multiplyR _ (HT.out.upd (HU12_0.out.drew.trans hI.upd)) hCr8_2 hb db).mono fun _ _ h => h.sq) hK'
    · obtain rfl := Option.some.inj ho
      obtain ⟨vg, hvg, rfl⟩ := hI.hq 8 _ 56 _ rfl rfl rfl (dp hdep 3 rfl rfl)
      obtain ⟨vp, hvp, ap, rfl, hCp⟩ := hI.hq 11 _ 59 _ rfl rfl rfl (dp hdep 0 rfl rfl)
      obtain ⟨vq, hvq, aq, rfl, hCq⟩ := hI.hq 14 _ 62 _ rfl rfl rfl (dp hdep 1 rfl rfl)
      exact hI.cq hD hls rfl (wanted_of rfl rfl rfl hvg) rfl 31 #[.tmp 59, .tmp 62] _ rfl #[.agg ap, .agg aq] (by simp [eval_of hvp, eval_of hvq]) (run_enter Tryd.func31 (by kernel_rfl) (by kernel_rfl)) (.val (.bool true)) rfl rfl ((equalR _ hCp hCq).mono fun _ _ h => ret_val (ret_b h (edEq_t (by rw [expo_mulAddL da db zeroKL_digs, times_mod _ _ order_base, show expo zeroKL = 0 by decide +kernel, Nat.add_zero, times_times])))) hK'
    · obtain rfl := Option.some.inj ho
      obtain ⟨vp, hvp, rfl⟩ := hI.hq 8 _ 56 _ rfl rfl rfl (dp hdep 0 rfl rfl)
      obtain ⟨vq, hvq, rfl⟩ := hI.hq 15 _ 63 _ rfl rfl rfl (dp hdep 1 rfl rfl)
      exact hI.pq hD hls rfl rfl rfl _ (run_pickT rfl (eval_of hvp) (eval_of hvq) wn) (.val (.bool true)) rfl rfl rfl hK'
    · obtain rfl := Option.some.inj ho
      obtain ⟨vp, hvp, rfl⟩ := hI.hq 16 _ 64 _ rfl rfl rfl (dp hdep 0 rfl rfl)
      exact hI.pq hD hls rfl rfl rfl _ (run_moveQ (.inr rfl) (eval_of hvp) wn) (.val (.bool true)) rfl rfl rfl hK'
  intro fuel an w14 hf hI
  obtain ⟨vr13_0, hvr13_0, ar13_0, rfl, hCr13_0⟩ := hI.hq 0 _ 48 _ rfl rfl rfl rfl
  obtain ⟨vr13_1, hvr13_1, rfl⟩ := hI.hq 1 _ 49 _ rfl rfl rfl rfl
  obtain ⟨vr13_2, hvr13_2, ar13_2, rfl, hCr13_2⟩ := hI.hq 2 _ 50 _ rfl rfl rfl rfl
  obtain ⟨vr13_3, hvr13_3, rfl⟩ := hI.hq 3 _ 51 _ rfl rfl rfl rfl
  obtain ⟨vr13_4, hvr13_4, rfl⟩ := hI.hq 4 _ 52 _ rfl rfl rfl rfl
  obtain ⟨vr13_5, hvr13_5, br13_5, zr13_5, rfl, hnr13_5, hbr13_5, hzr13_5⟩ := hI.hq 5 _ 53 _ rfl rfl rfl rfl
  obtain ⟨vr13_6, hvr13_6, ar13_6, rfl, hCr13_6⟩ := hI.hq 6 _ 54 _ rfl rfl rfl rfl
  obtain ⟨vr13_7, hvr13_7, rfl⟩ := hI.hq 7 _ 55 _ rfl rfl rfl rfl
  obtain ⟨vr13_8, hvr13_8, rfl⟩ := hI.hq 8 _ 56 _ rfl rfl rfl rfl
  obtain ⟨vr13_9, hvr13_9, ar13_9, rfl, hCr13_9⟩ := hI.hq 9 _ 57 _ rfl rfl rfl rfl
  obtain ⟨vr13_10, hvr13_10, rfl⟩ := hI.hq 10 _ 58 _ rfl rfl rfl rfl
  obtain ⟨vr13_11, hvr13_11, ar13_11, rfl, hCr13_11⟩ := hI.hq 11 _ 59 _ rfl rfl rfl rfl
  obtain ⟨vr13_12, hvr13_12, rfl⟩ := hI.hq 12 _ 60 _ rfl rfl rfl rfl
  obtain ⟨vr13_13, hvr13_13, rfl⟩ := hI.hq 13 _ 61 _ rfl rfl rfl rfl
  obtain ⟨vr13_14, hvr13_14, ar13_14, rfl, hCr13_14⟩ := hI.hq 14 _ 62 _ rfl rfl rfl rfl
  obtain ⟨vr13_15, hvr13_15, rfl⟩ := hI.hq 15 _ 63 _ rfl rfl rfl rfl
  obtain ⟨vr13_16, hvr13_16, rfl⟩ := hI.hq 16 _ 64 _ rfl rfl rfl rfl
  obtain ⟨vr13_17, hvr13_17, rfl⟩ := hI.hq 17 _ 4 _ rfl rfl rfl rfl
  have hupd := hI.upd
  have ha := hI.act [(48, .agg ar13_0), (49, .agg (numsA .u8 (mulAddL a keyO0 b))), (50, .agg ar13_2), (51, .agg ar8_2), (52, .agg ar12_2), (53, .slice (some ⟨br13_5, 0, none⟩) 2 2), (54, .agg ar13_6), (55, .bool true), (56, .bool true), (57, .agg ar13_9), (58, .agg (numsA .u8 (mulAddL a b zeroKL))), (59, .agg ar13_11), (60, .agg ar8_2), (61, .agg (numsA .u8 b)), (62, .agg ar13_14), (63, .bool true), (64, .bool true), (4, .bool true)] (by simp [hvr13_0, hvr13_1, hvr13_2, hvr13_3, hvr13_4, hvr13_5, hvr13_6, hvr13_7, hvr13_8, hvr13_9, hvr13_10, hvr13_11, hvr13_12, hvr13_13, hvr13_14, hvr13_15, hvr13_16, hvr13_17]) (by kernel_rfl)
  clear hI hvr13_0 hvr13_1 hvr13_2 hvr13_3 hvr13_4 hvr13_5 hvr13_6 hvr13_7 hvr13_8 hvr13_9 hvr13_10 hvr13_11 hvr13_12 hvr13_13 hvr13_14 hvr13_15 hvr13_16 hvr13_17
  subst ha
  simp only [List.foldl_cons, List.foldl_nil, List.setIfInBounds_toArray, List.set_cons_zero, List.set_cons_succ]
  have Bxr0y0_13 := hupd.keepD Bxr0y0_s12_0
  have Bxr0y1_13 := hupd.keepD Bxr0y1_s12_0
  have Bxr2y0_13 := hupd.keepD Bxr2y0_s12_0
  have Bord_13 := hupd.keepD Bord_s12_0
  have Bxr8y3_13 := hupd.keepD Bxr8y3_s12_0
  have Bxr10y1_13 := hupd.keepD Bxr10y1_s12_0
  have Bxr11y8_13 := hupd.keepD Bxr11y8_s12_0
  have Bxr11y9_13 := hupd.keepD Bxr11y9_s12_0
  have Bxr12y3_13 := hupd.keepD Bxr12y3_s12_0
  have HU13 := hh (HU12_0.out.drew.trans hupd)
  clear hupd
  refine wpAny_done (by kernel_rfl) ?_ _
  refine hK19 _ _ ?_
  clear hK19
  refine wp_ret ?_
  try dsimp only [Exit.then]
  try dsimp only [Exit.inBlock]
  exact bodyPost_ret (v := .bool true) (results_tmpQ (fn := Tryd.f13) (t := 4) rfl _ _ (.bool true) rfl) rfl ⟨rfl, HU13.out⟩
end Go.Proofs.YtdpafemcpbhlfaaDoor
