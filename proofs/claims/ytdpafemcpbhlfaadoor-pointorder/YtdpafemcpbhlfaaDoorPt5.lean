/-
  The walk of based.
-/
import Derived.Test.YtdpafemcpbhlfaaDoorPt4
import Derived.Test.YtdpafemcpbhlfaaDoorExpMath
namespace Go.Proofs.YtdpafemcpbhlfaaDoor
set_option maxRecDepth 100000
open Go.RowKit

def keyD0 : List Int := [1, 0, 0, 0, 0, 0, 0, 0, 0, 0, 0, 0, 0, 0, 0, 0, 0, 0, 0, 0, 0, 0, 0, 0, 0, 0, 0, 0, 0, 0, 0, 0]
theorem keyD0_length : keyD0.length = 32 := rfl
theorem keyD0_digs : Digs 256 keyD0 := digs_of_all (by decide)
theorem keyD0_run {o : Oper} {a : Act} (ho : o.op = .build 23 #[(0, .const (.int .u8 1))]) (w : World) : (execOp a.eval o).run Tryd.prog w = .ok (.value (.agg (numsA .u8 keyD0))) w := by
  have hb : (Instr.build 23 #[(0, .int .u8 1)]).run Tryd.prog w = .ok (.agg (numsA .u8 keyD0)) w := by kernel_rfl
  have hm : (#[(0, .const (.int .u8 1))] : Array (Nat × Operand)).map (fun (i, x) => (i, a.eval x)) = #[(0, .int .u8 1)] := by simp [Act.eval]
  unfold execOp
  simp only [ho]
  rw [hm, Sem.run_bind, hb]
  rfl
theorem encP_base : encP eB = encL xB yB := rfl
theorem base_b0 : decide ((encP eB).getD 0 0 = 88) = true := decide_eq_true (by rw [encP_base]; decide +kernel)
theorem base_b1 : decide ((encP eB).getD 1 0 = 102) = true := decide_eq_true (by rw [encP_base]; decide +kernel)
theorem base_b31 : decide ((encP eB).getD 31 0 = 102) = true := decide_eq_true (by rw [encP_base]; decide +kernel)
theorem base_tiny : edEq (eB.times 8) EP.nil = false := edEq_f base_eight
theorem nil_tiny : edEq (EP.nil.times 8) EP.nil = true := edEq_t (times_nil 8)
theorem encP_nil : encP EP.nil = encL 0 1 := rfl
theorem nil_enc : decide (encP EP.nil = keyD0) = true := decide_eq_true (by rw [encP_nil]; decide +kernel)
theorem digs_one {x : Int} (h : 0 ≤ x ∧ x < 256) : Digs 256 (x :: List.replicate 31 0) := by
  intro y hy
  rcases List.mem_cons.1 hy with rfl | hy
  · exact h
  · obtain ⟨_, rfl⟩ := List.mem_replicate.1 hy
    omega
theorem expo_one {x : Int} (_h : 0 ≤ x) : expo (x :: List.replicate 31 0) = x.toNat := by
  have := expo_two x 0 30
  rw [show (x :: List.replicate 31 (0 : Int)) = x :: 0 :: List.replicate 30 0 from rfl, this]
  congr 1
  omega
theorem eb_idx (e f : EP) : decide (encP e = encP f) = edEq e f := by
  by_cases h : e = f
  · rw [edEq_t h, decide_eq_true (by rw [h])]
  · rw [edEq_f h, decide_eq_false (fun g => h (encP_inj g))]
theorem back_eq {e : EP} (h : e = e.back) : e.x = 0 := fself_neg (show e.x = -e.x from congrArg Ed.x h)
theorem back_high {e : EP} (h : e = e.back) : (encP e).getD 31 0 < 128 := by
  have hx := back_eq h
  have h1 : decide (128 ≤ (encP e).getD 31 0) = decide (e.x.val % 2 = 1) := high_encL _ _
  rw [hx, show decide ((0 : Fp).val % 2 = 1) = false by decide] at h1
  have := of_decide_eq_false h1
  omega
theorem back_xor {e : EP} (h : ¬ e = e.back) : (encP e.back).set 31 (bits .xor .u8 ((encP e.back).getD 31 0) 128) = encP e := by
  have hx : e.x ≠ 0 := fun g => h (Ed.ext' (by show e.x = -e.x; rw [g]; grobner) rfl)
  have hk := keyOf_last e.y
  have hl : 31 < (keyOf e.y).length := by rw [keyOf_length]; omega
  rw [xor128' _ ((encP_digs e.back).get (B := 256) (by omega) 31)]
  have e1 : encP e.back = encL (-e.x) e.y := rfl
  have e2 : encP e = encL e.x e.y := rfl
  rw [e1, e2]
  unfold encL
  by_cases ho : e.x.val % 2 = 1
  · rw [if_pos ho, if_neg (fun g => (neg_odd hx).1 g ho), if_neg (by omega)]
  · rw [if_neg ho, if_pos ((neg_odd hx).2 ho), getD_set_self hl, if_pos (by omega), List.set_set, show (keyOf e.y).getD 31 0 + 128 - 128 = (keyOf e.y).getD 31 0 by omega, set_getD hl]
set_option maxHeartbeats 4000000 in
theorem basedL (w : World) (hT : Tw w) :
    Calls Tryd.prog 23 #[] w fun e w' => e = .returned (.bool true) ∧ Upd (fun _ => False) w w' := by
  have HT := hh hT
  clear hT
  have HU := hh (Upd.refl (fun _ => False) w)
  go_enter Tryd.func23, Tryd.ntmps23
  refine wp_seq_k fun K0 hK0 => ?_
  refine wp_region_qSD 1 #[true] [] ([.val (.bool false)] : List SQ) (by kernel_rfl) (by kernel_rfl) (by kernel_rfl) (by kernel_rfl) ?_ ?_
  · intro i o listed an wn ho hls hst hun hdep hI hD hpre K' hK'
    rcases slot_cases (l := [0]) rfl ho hst with rfl | ⟨⟨⟩⟩
    · obtain rfl := Option.some.inj ho
      exact hI.pq hD hls rfl rfl rfl _ (run_moveQ (.inr rfl) (show an.eval (.const (.bool false)) = .bool false from rfl) wn) (.val (.bool false)) rfl rfl rfl hK'
  intro an w1 hI
  obtain ⟨vr0_0, hvr0_0, rfl⟩ := hI.hq 0 _ 0 _ rfl rfl rfl rfl
  have hupd := hI.upd
  have ha := hI.act [(0, .bool false)] (by simp [hvr0_0]) (by kernel_rfl)
  clear hI hvr0_0
  subst ha
  simp only [List.foldl_cons, List.foldl_nil, List.setIfInBounds_toArray, List.set_cons_zero]
  have HU0 := hh (HU.out.trans hupd)
  clear hupd
  refine wpOps_nil ?_
  refine hK0 _ _ ?_
  clear hK0
  refine wp_seq_k fun K1 hK1 => ?_
  refine wp_region_qSD 3 #[true, true, true, false] [3] ([.like (IsC 20 RP [some eB]), .val (.agg (numsA .u8 (encP eB))), .blk ptrTo 23 (fun z => z = numsA .u8 zeroKL), .val undef] : List SQ) (by kernel_rfl) (by kernel_rfl) (by kernel_rfl) (by kernel_rfl) ?_ ?_
  · intro i o listed an wn ho hls hst hun hdep hI hD hpre K' hK'
    rcases slot_cases (l := [0, 1, 2]) rfl ho hst with rfl | rfl | rfl | ⟨⟨⟩⟩
    · obtain rfl := Option.some.inj ho
      exact hI.cq hD hls rfl rfl rfl 34 #[] _ rfl #[] (by simp) (run_enter Tryd.func34 (by kernel_rfl) (by kernel_rfl)) (.like (IsC 20 RP [some eB])) rfl rfl ((baseR _ ).mono fun _ _ h => h.sq) hK'
    · obtain rfl := Option.some.inj ho
      obtain ⟨vp, hvp, ap, rfl, hCp⟩ := hI.hq 0 _ 2 _ rfl rfl rfl (dp hdep 0 rfl rfl)
      exact hI.cq hD hls rfl rfl rfl 26 #[.tmp 2] _ rfl #[.agg ap] (by simp [eval_of hvp]) (run_enter Tryd.func26 (by kernel_rfl) (by kernel_rfl)) (.val (.agg (numsA .u8 (encP eB)))) rfl rfl ((encodeR _ hCp).mono fun _ _ h => ret_val h) hK'
    · obtain rfl := Option.some.inj ho
      exact hI.newQ hD hls (Nat.le_refl _) (newsQ_spec (l := [2]) (by kernel_rfl) ⟨⟨_, _, rfl⟩, trivial⟩) rfl rfl rfl 23 _ (fun z => z = numsA .u8 zeroKL) (run_allocQ rfl zeroK_run wn) rfl rfl hK'
  intro an w2 hI
  obtain ⟨vr1_0, hvr1_0, ar1_0, rfl, hCr1_0⟩ := hI.hq 0 _ 2 _ rfl rfl rfl rfl
  obtain ⟨vr1_1, hvr1_1, rfl⟩ := hI.hq 1 _ 3 _ rfl rfl rfl rfl
  obtain ⟨vr1_2, hvr1_2, br1_2, zr1_2, rfl, hnr1_2, hbr1_2, hzr1_2⟩ := hI.hq 2 _ 1 _ rfl rfl rfl rfl
  rw [hzr1_2] at hbr1_2
  clear hzr1_2
  have hupd := hI.upd
  have ha := hI.act [(2, .agg ar1_0), (3, .agg (numsA .u8 (encP eB))), (1, ptrTo br1_2)] (by simp [hvr1_0, hvr1_1, hvr1_2]) (by kernel_rfl)
  clear hI hvr1_0 hvr1_1 hvr1_2
  subst ha
  simp only [List.foldl_cons, List.foldl_nil, List.setIfInBounds_toArray, List.set_cons_zero, List.set_cons_succ]
  have hger1_2 := geB HU0 hnr1_2
  have Bxr1y2 := hh hbr1_2
  have HU1 := hh (HU0.out.trans hupd)
  clear hupd
  refine wpOps_storeQ 3 rfl rfl rfl 23 (.tmp 1) (.tmp 3) rfl br1_2 0 32 rfl (numsA .u8 (encP eB)) rfl 23 (numsA .u8 zeroKL) Bxr1y2.out sizeKey (by rw [numsA_size]; exact encP_length _) (by rw [(show (numsA _ _).size = 32 by rw [numsA_size]; exact zeroKL_length)]; exact Nat.le_of_ble_eq_true rfl) (numsA_one _ _) ?_
  intro ws1_0 hs1_0 hus1_0
  rw [splice_all _ _ 32 (show (numsA _ _).size = 32 by rw [numsA_size]; exact zeroKL_length) (by rw [numsA_size]; exact encP_length _)] at hs1_0
  have Bxr1y2_s1_0 := hh hs1_0
  have HU1_0 := hh (HU1.out.step hus1_0 (fun i hi h => absurd hi (Nat.not_lt.2 (h.symm ▸ hger1_2.out))))
  clear hs1_0 hus1_0
  refine wpOps_nil ?_
  refine hK1 _ _ ?_
  clear hK1
  refine wp_seq_k fun K2 hK2 => ?_
  refine wp_region_qSD 29 #[true, true, true, true, true, true, true, true, true, true, true, true, true, true, true, true, true, true, true, true, true, true, true, true, true, true, true, true, true] [] ([.val (.pointer (some ⟨br1_2, 0 + 0, none⟩)), .val (.int .u8 ((encP eB).getD 0 0)), .val (.bool true), .val (.bool true), .val (.pointer (some ⟨br1_2, 0 + 1, none⟩)), .val (.int .u8 ((encP eB).getD 1 0)), .val (.bool true), .val (.bool true), .val (.bool true), .val (.pointer (some ⟨br1_2, 0 + 31, none⟩)), .val (.int .u8 ((encP eB).getD 31 0)), .val (.bool true), .val (.bool true), .val (.bool true), .like (IsC 20 RP [some eB]), .val (.bool false), .val (.bool true), .val (.bool true), .val (.bool true), .like (IsC 20 RP [some EP.nil]), .val (.bool true), .val (.bool true), .val (.bool true), .like (IsC 20 RP [some EP.nil]), .val (.agg (numsA .u8 (encP EP.nil))), .val (.agg (numsA .u8 keyD0)), .val (.bool true), .val (.bool true), .val (.bool true)] : List SQ) (by kernel_rfl) (by kernel_rfl) (by kernel_rfl) (by kernel_rfl) ?_ ?_
  · intro i o listed an wn ho hls hst hun hdep hI hD hpre K' hK'
    rcases slot_cases (l := [0, 1, 2, 3, 4, 5, 6, 7, 8, 9, 10, 11, 12, 13, 14, 15, 16, 17, 18, 19, 20, 21, 22, 23, 24, 25, 26, 27, 28]) rfl ho hst with rfl | rfl | rfl | rfl | rfl | rfl | rfl | rfl | rfl | rfl | rfl | rfl | rfl | rfl | rfl | rfl | rfl | rfl | rfl | rfl | rfl | rfl | rfl | rfl | rfl | rfl | rfl | rfl | rfl | ⟨⟨⟩⟩
    · obtain rfl := Option.some.inj ho
      have hvp : an.eval (.tmp 1) = ptrTo br1_2 := hI.oq (by kernel_rfl) rfl
      exact hI.pq hD hls rfl rfl rfl _ (run_adr (off := 0) (i := 0) rfl Tryd.underlying23 size5 hvp rfl (by omega) wn) (.val (.pointer (some ⟨br1_2, 0 + 0, none⟩))) rfl rfl rfl hK'
    · obtain rfl := Option.some.inj ho
      obtain ⟨vp, hvp, rfl⟩ := hI.hq 0 _ 4 _ rfl rfl rfl (dp hdep 0 rfl rfl)
      exact hI.pq hD hls rfl rfl rfl _ (run_cellQ rfl Tryd.underlying5 (eval_of hvp) wn (hI.upd.keep Bxr1y2_s1_0).out (by rw [Nat.zero_add]; exact numsA_get _ _ _ (by rw [encP_length _]; omega))) (.val (.int .u8 ((encP eB).getD 0 0))) rfl rfl rfl hK'
    · obtain rfl := Option.some.inj ho
      obtain ⟨vp, hvp, rfl⟩ := hI.hq 1 _ 5 _ rfl rfl rfl (dp hdep 0 rfl rfl)
      exact hI.pq hD hls rfl rfl rfl _ (run_eql rfl (eval_of hvp) rfl base_b0 wn) (.val (.bool true)) rfl rfl rfl hK'
    · obtain rfl := Option.some.inj ho
      obtain ⟨vp, hvp, rfl⟩ := hI.hq 2 _ 6 _ rfl rfl rfl (dp hdep 0 rfl rfl)
      exact hI.pq hD hls rfl rfl rfl _ (run_moveQ (.inl rfl) (eval_of hvp) wn) (.val (.bool true)) rfl rfl rfl hK'
    · obtain rfl := Option.some.inj ho
      obtain ⟨vg, hvg, rfl⟩ := hI.hq 3 _ 7 _ rfl rfl rfl (dp hdep 0 rfl rfl)
      have hvp : an.eval (.tmp 1) = ptrTo br1_2 := hI.oq (by kernel_rfl) rfl
      exact hI.pq hD hls rfl (wanted_of rfl rfl rfl hvg) rfl _ (run_adr (off := 0) (i := 1) rfl Tryd.underlying23 size5 hvp rfl (by omega) wn) (.val (.pointer (some ⟨br1_2, 0 + 1, none⟩))) rfl rfl rfl hK'
    · obtain rfl := Option.some.inj ho
      obtain ⟨vg, hvg, rfl⟩ := hI.hq 3 _ 7 _ rfl rfl rfl (dp hdep 1 rfl rfl)
      obtain ⟨vp, hvp, rfl⟩ := hI.hq 4 _ 8 _ rfl rfl rfl (dp hdep 0 rfl rfl)
      exact hI.pq hD hls rfl (wanted_of rfl rfl rfl hvg) rfl _ (run_cellQ rfl Tryd.underlying5 (eval_of hvp) wn (hI.upd.keep Bxr1y2_s1_0).out (by rw [Nat.zero_add]; exact numsA_get _ _ _ (by rw [encP_length _]; omega))) (.val (.int .u8 ((encP eB).getD 1 0))) rfl rfl rfl hK'
    · obtain rfl := Option.some.inj ho
      obtain ⟨vg, hvg, rfl⟩ := hI.hq 3 _ 7 _ rfl rfl rfl (dp hdep 1 rfl rfl)
      obtain ⟨vp, hvp, rfl⟩ := hI.hq 5 _ 9 _ rfl rfl rfl (dp hdep 0 rfl rfl)
      exact hI.pq hD hls rfl (wanted_of rfl rfl rfl hvg) rfl _ (run_eql rfl (eval_of hvp) rfl base_b1 wn) (.val (.bool true)) rfl rfl rfl hK'
    · obtain rfl := Option.some.inj ho
      obtain ⟨vp, hvp, rfl⟩ := hI.hq 3 _ 7 _ rfl rfl rfl (dp hdep 0 rfl rfl)
      obtain ⟨vq, hvq, rfl⟩ := hI.hq 6 _ 10 _ rfl rfl rfl (dp hdep 1 rfl rfl)
      exact hI.pq hD hls rfl rfl rfl _ (run_pickT rfl (eval_of hvp) (eval_of hvq) wn) (.val (.bool true)) rfl rfl rfl hK'
    · obtain rfl := Option.some.inj ho
      obtain ⟨vp, hvp, rfl⟩ := hI.hq 7 _ 11 _ rfl rfl rfl (dp hdep 0 rfl rfl)
      exact hI.pq hD hls rfl rfl rfl _ (run_moveQ (.inl rfl) (eval_of hvp) wn) (.val (.bool true)) rfl rfl rfl hK'
    · obtain rfl := Option.some.inj ho
      obtain ⟨vg, hvg, rfl⟩ := hI.hq 8 _ 12 _ rfl rfl rfl (dp hdep 0 rfl rfl)
      have hvp : an.eval (.tmp 1) = ptrTo br1_2 := hI.oq (by kernel_rfl) rfl
      exact hI.pq hD hls rfl (wanted_of rfl rfl rfl hvg) rfl _ (run_adr (off := 0) (i := 31) rfl Tryd.underlying23 size5 hvp rfl (by omega) wn) (.val (.pointer (some ⟨br1_2, 0 + 31, none⟩))) rfl rfl rfl hK'
    · obtain rfl := Option.some.inj ho
      obtain ⟨vg, hvg, rfl⟩ := hI.hq 8 _ 12 _ rfl rfl rfl (dp hdep 1 rfl rfl)
      obtain ⟨vp, hvp, rfl⟩ := hI.hq 9 _ 13 _ rfl rfl rfl (dp hdep 0 rfl rfl)
      exact hI.pq hD hls rfl (wanted_of rfl rfl rfl hvg) rfl _ (run_cellQ rfl Tryd.underlying5 (eval_of hvp) wn (hI.upd.keep Bxr1y2_s1_0).out (by rw [Nat.zero_add]; exact numsA_get _ _ _ (by rw [encP_length _]; omega))) (.val (.int .u8 ((encP eB).getD 31 0))) rfl rfl rfl hK'
    · obtain rfl := Option.some.inj ho
      obtain ⟨vg, hvg, rfl⟩ := hI.hq 8 _ 12 _ rfl rfl rfl (dp hdep 1 rfl rfl)
      obtain ⟨vp, hvp, rfl⟩ := hI.hq 10 _ 14 _ rfl rfl rfl (dp hdep 0 rfl rfl)
      exact hI.pq hD hls rfl (wanted_of rfl rfl rfl hvg) rfl _ (run_eql rfl (eval_of hvp) rfl base_b31 wn) (.val (.bool true)) rfl rfl rfl hK'
    · obtain rfl := Option.some.inj ho
      obtain ⟨vp, hvp, rfl⟩ := hI.hq 8 _ 12 _ rfl rfl rfl (dp hdep 0 rfl rfl)
      obtain ⟨vq, hvq, rfl⟩ := hI.hq 11 _ 15 _ rfl rfl rfl (dp hdep 1 rfl rfl)
      exact hI.pq hD hls rfl rfl rfl _ (run_pickT rfl (eval_of hvp) (eval_of hvq) wn) (.val (.bool true)) rfl rfl rfl hK'
    · obtain rfl := Option.some.inj ho
      obtain ⟨vp, hvp, rfl⟩ := hI.hq 12 _ 16 _ rfl rfl rfl (dp hdep 0 rfl rfl)
      exact hI.pq hD hls rfl rfl rfl _ (run_moveQ (.inl rfl) (eval_of hvp) wn) (.val (.bool true)) rfl rfl rfl hK'
    · obtain rfl := Option.some.inj ho
      obtain ⟨vg, hvg, rfl⟩ := hI.hq 13 _ 17 _ rfl rfl rfl (dp hdep 1 rfl rfl)
      exact hI.cq hD hls rfl (wanted_of rfl rfl rfl hvg) rfl 34 #[] _ rfl #[] (by simp) (run_enter Tryd.func34 (by kernel_rfl) (by kernel_rfl)) (.like (IsC 20 RP [some eB])) rfl rfl ((baseR _ ).mono fun _ _ h => h.sq) hK'
    · obtain rfl := Option.some.inj ho
      obtain ⟨vg, hvg, rfl⟩ := hI.hq 13 _ 17 _ rfl rfl rfl (dp hdep 2 rfl rfl)
      obtain ⟨vp, hvp, ap, rfl, hCp⟩ := hI.hq 14 _ 18 _ rfl rfl rfl (dp hdep 0 rfl rfl)
      exact hI.cq hD hls rfl (wanted_of rfl rfl rfl hvg) rfl 38 #[.tmp 18] _ rfl #[.agg ap] (by simp [eval_of hvp]) (run_enter Tryd.func38 (by kernel_rfl) (by kernel_rfl)) (.val (.bool false)) rfl rfl ((tinyR _ (HT.out.upd (HU1_0.out.trans hI.upd)) hCp).mono fun _ _ h => ret_val (ret_b h base_tiny)) hK'
    · obtain rfl := Option.some.inj ho
      obtain ⟨vg, hvg, rfl⟩ := hI.hq 13 _ 17 _ rfl rfl rfl (dp hdep 1 rfl rfl)
      obtain ⟨vp, hvp, rfl⟩ := hI.hq 15 _ 19 _ rfl rfl rfl (dp hdep 0 rfl rfl)
      exact hI.pq hD hls rfl (wanted_of rfl rfl rfl hvg) rfl _ (run_not rfl (eval_of hvp) wn) (.val (.bool true)) rfl rfl rfl hK'
    · obtain rfl := Option.some.inj ho
      obtain ⟨vp, hvp, rfl⟩ := hI.hq 13 _ 17 _ rfl rfl rfl (dp hdep 0 rfl rfl)
      obtain ⟨vq, hvq, rfl⟩ := hI.hq 16 _ 20 _ rfl rfl rfl (dp hdep 1 rfl rfl)
      exact hI.pq hD hls rfl rfl rfl _ (run_pickT rfl (eval_of hvp) (eval_of hvq) wn) (.val (.bool true)) rfl rfl rfl hK'
    · obtain rfl := Option.some.inj ho
      obtain ⟨vp, hvp, rfl⟩ := hI.hq 17 _ 21 _ rfl rfl rfl (dp hdep 0 rfl rfl)
      exact hI.pq hD hls rfl rfl rfl _ (run_moveQ (.inl rfl) (eval_of hvp) wn) (.val (.bool true)) rfl rfl rfl hK'
    · obtain rfl := Option.some.inj ho
      obtain ⟨vg, hvg, rfl⟩ := hI.hq 18 _ 22 _ rfl rfl rfl (dp hdep 1 rfl rfl)
      exact hI.cq hD hls rfl (wanted_of rfl rfl rfl hvg) rfl 33 #[] _ rfl #[] (by simp) (run_enter Tryd.func33 (by kernel_rfl) (by kernel_rfl)) (.like (IsC 20 RP [some EP.nil])) rfl rfl ((zeroR _ ).mono fun _ _ h => h.sq) hK'
    · obtain rfl := Option.some.inj ho
      obtain ⟨vg, hvg, rfl⟩ := hI.hq 18 _ 22 _ rfl rfl rfl (dp hdep 2 rfl rfl)
      obtain ⟨vp, hvp, ap, rfl, hCp⟩ := hI.hq 19 _ 23 _ rfl rfl rfl (dp hdep 0 rfl rfl)
      exact hI.cq hD hls rfl (wanted_of rfl rfl rfl hvg) rfl 38 #[.tmp 23] _ rfl #[.agg ap] (by simp [eval_of hvp]) (run_enter Tryd.func38 (by kernel_rfl) (by kernel_rfl)) (.val (.bool true)) rfl rfl ((tinyR _ (HT.out.upd (HU1_0.out.trans hI.upd)) hCp).mono fun _ _ h => ret_val (ret_b h nil_tiny)) hK'
    · obtain rfl := Option.some.inj ho
      obtain ⟨vp, hvp, rfl⟩ := hI.hq 18 _ 22 _ rfl rfl rfl (dp hdep 0 rfl rfl)
      obtain ⟨vq, hvq, rfl⟩ := hI.hq 20 _ 24 _ rfl rfl rfl (dp hdep 1 rfl rfl)
      exact hI.pq hD hls rfl rfl rfl _ (run_pickT rfl (eval_of hvp) (eval_of hvq) wn) (.val (.bool true)) rfl rfl rfl hK'
    · obtain rfl := Option.some.inj ho
      obtain ⟨vp, hvp, rfl⟩ := hI.hq 21 _ 25 _ rfl rfl rfl (dp hdep 0 rfl rfl)
      exact hI.pq hD hls rfl rfl rfl _ (run_moveQ (.inl rfl) (eval_of hvp) wn) (.val (.bool true)) rfl rfl rfl hK'
    · obtain rfl := Option.some.inj ho
      obtain ⟨vg, hvg, rfl⟩ := hI.hq 22 _ 26 _ rfl rfl rfl (dp hdep 1 rfl rfl)
      exact hI.cq hD hls rfl (wanted_of rfl rfl rfl hvg) rfl 33 #[] _ rfl #[] (by simp) (run_enter Tryd.func33 (by kernel_rfl) (by kernel_rfl)) (.like (IsC 20 RP [some EP.nil])) rfl rfl ((zeroR _ ).mono fun _ _ h => h.sq) hK'
    · obtain rfl := Option.some.inj ho
      obtain ⟨vg, hvg, rfl⟩ := hI.hq 22 _ 26 _ rfl rfl rfl (dp hdep 2 rfl rfl)
      obtain ⟨vp, hvp, ap, rfl, hCp⟩ := hI.hq 23 _ 27 _ rfl rfl rfl (dp hdep 0 rfl rfl)
      exact hI.cq hD hls rfl (wanted_of rfl rfl rfl hvg) rfl 26 #[.tmp 27] _ rfl #[.agg ap] (by simp [eval_of hvp]) (run_enter Tryd.func26 (by kernel_rfl) (by kernel_rfl)) (.val (.agg (numsA .u8 (encP EP.nil)))) rfl rfl ((encodeR _ hCp).mono fun _ _ h => ret_val h) hK'
    · obtain rfl := Option.some.inj ho
      obtain ⟨vg, hvg, rfl⟩ := hI.hq 22 _ 26 _ rfl rfl rfl (dp hdep 0 rfl rfl)
      exact hI.pq hD hls rfl (wanted_of rfl rfl rfl hvg) rfl _ (keyD0_run rfl wn) (.val (.agg (numsA .u8 keyD0))) rfl rfl rfl hK'
    · obtain rfl := Option.some.inj ho
      obtain ⟨vg, hvg, rfl⟩ := hI.hq 22 _ 26 _ rfl rfl rfl (dp hdep 2 rfl rfl)
      obtain ⟨vp, hvp, rfl⟩ := hI.hq 24 _ 28 _ rfl rfl rfl (dp hdep 0 rfl rfl)
      obtain ⟨vq, hvq, rfl⟩ := hI.hq 25 _ 29 _ rfl rfl rfl (dp hdep 1 rfl rfl)
      exact hI.pq hD hls rfl (wanted_of rfl rfl rfl hvg) rfl _ (run_eqlK (b := true) rfl (eval_of hvp) (eval_of hvq) (encP_length _) keyD0_length nil_enc wn) (.val (.bool true)) rfl rfl rfl hK'
    · obtain rfl := Option.some.inj ho
      obtain ⟨vp, hvp, rfl⟩ := hI.hq 22 _ 26 _ rfl rfl rfl (dp hdep 0 rfl rfl)
      obtain ⟨vq, hvq, rfl⟩ := hI.hq 26 _ 30 _ rfl rfl rfl (dp hdep 1 rfl rfl)
      exact hI.pq hD hls rfl rfl rfl _ (run_pickT rfl (eval_of hvp) (eval_of hvq) wn) (.val (.bool true)) rfl rfl rfl hK'
    · obtain rfl := Option.some.inj ho
      obtain ⟨vp, hvp, rfl⟩ := hI.hq 27 _ 31 _ rfl rfl rfl (dp hdep 0 rfl rfl)
      exact hI.pq hD hls rfl rfl rfl _ (run_moveQ (.inr rfl) (eval_of hvp) wn) (.val (.bool true)) rfl rfl rfl hK'
  intro an w3 hI
  obtain ⟨vr2_0, hvr2_0, rfl⟩ := hI.hq 0 _ 4 _ rfl rfl rfl rfl
  obtain ⟨vr2_1, hvr2_1, rfl⟩ := hI.hq 1 _ 5 _ rfl rfl rfl rfl
  obtain ⟨vr2_2, hvr2_2, rfl⟩ := hI.hq 2 _ 6 _ rfl rfl rfl rfl
  obtain ⟨vr2_3, hvr2_3, rfl⟩ := hI.hq 3 _ 7 _ rfl rfl rfl rfl
  obtain ⟨vr2_4, hvr2_4, rfl⟩ := hI.hq 4 _ 8 _ rfl rfl rfl rfl
  obtain ⟨vr2_5, hvr2_5, rfl⟩ := hI.hq 5 _ 9 _ rfl rfl rfl rfl
  obtain ⟨vr2_6, hvr2_6, rfl⟩ := hI.hq 6 _ 10 _ rfl rfl rfl rfl
  obtain ⟨vr2_7, hvr2_7, rfl⟩ := hI.hq 7 _ 11 _ rfl rfl rfl rfl
  obtain ⟨vr2_8, hvr2_8, rfl⟩ := hI.hq 8 _ 12 _ rfl rfl rfl rfl
  obtain ⟨vr2_9, hvr2_9, rfl⟩ := hI.hq 9 _ 13 _ rfl rfl rfl rfl
  obtain ⟨vr2_10, hvr2_10, rfl⟩ := hI.hq 10 _ 14 _ rfl rfl rfl rfl
  obtain ⟨vr2_11, hvr2_11, rfl⟩ := hI.hq 11 _ 15 _ rfl rfl rfl rfl
  obtain ⟨vr2_12, hvr2_12, rfl⟩ := hI.hq 12 _ 16 _ rfl rfl rfl rfl
  obtain ⟨vr2_13, hvr2_13, rfl⟩ := hI.hq 13 _ 17 _ rfl rfl rfl rfl
  obtain ⟨vr2_14, hvr2_14, ar2_14, rfl, hCr2_14⟩ := hI.hq 14 _ 18 _ rfl rfl rfl rfl
  obtain ⟨vr2_15, hvr2_15, rfl⟩ := hI.hq 15 _ 19 _ rfl rfl rfl rfl
  obtain ⟨vr2_16, hvr2_16, rfl⟩ := hI.hq 16 _ 20 _ rfl rfl rfl rfl
  obtain ⟨vr2_17, hvr2_17, rfl⟩ := hI.hq 17 _ 21 _ rfl rfl rfl rfl
  obtain ⟨vr2_18, hvr2_18, rfl⟩ := hI.hq 18 _ 22 _ rfl rfl rfl rfl
  obtain ⟨vr2_19, hvr2_19, ar2_19, rfl, hCr2_19⟩ := hI.hq 19 _ 23 _ rfl rfl rfl rfl
  obtain ⟨vr2_20, hvr2_20, rfl⟩ := hI.hq 20 _ 24 _ rfl rfl rfl rfl
  obtain ⟨vr2_21, hvr2_21, rfl⟩ := hI.hq 21 _ 25 _ rfl rfl rfl rfl
  obtain ⟨vr2_22, hvr2_22, rfl⟩ := hI.hq 22 _ 26 _ rfl rfl rfl rfl
  obtain ⟨vr2_23, hvr2_23, ar2_23, rfl, hCr2_23⟩ := hI.hq 23 _ 27 _ rfl rfl rfl rfl
  obtain ⟨vr2_24, hvr2_24, rfl⟩ := hI.hq 24 _ 28 _ rfl rfl rfl rfl
  obtain ⟨vr2_25, hvr2_25, rfl⟩ := hI.hq 25 _ 29 _ rfl rfl rfl rfl
  obtain ⟨vr2_26, hvr2_26, rfl⟩ := hI.hq 26 _ 30 _ rfl rfl rfl rfl
  obtain ⟨vr2_27, hvr2_27, rfl⟩ := hI.hq 27 _ 31 _ rfl rfl rfl rfl
  obtain ⟨vr2_28, hvr2_28, rfl⟩ := hI.hq 28 _ 0 _ rfl rfl rfl rfl
  have hupd := hI.upd
  have ha := hI.act [(4, .pointer (some ⟨br1_2, 0 + 0, none⟩)), (5, .int .u8 ((encP eB).getD 0 0)), (6, .bool true), (7, .bool true), (8, .pointer (some ⟨br1_2, 0 + 1, none⟩)), (9, .int .u8 ((encP eB).getD 1 0)), (10, .bool true), (11, .bool true), (12, .bool true), (13, .pointer (some ⟨br1_2, 0 + 31, none⟩)), (14, .int .u8 ((encP eB).getD 31 0)), (15, .bool true), (16, .bool true), (17, .bool true), (18, .agg ar2_14), (19, .bool false), (20, .bool true), (21, .bool true), (22, .bool true), (23, .agg ar2_19), (24, .bool true), (25, .bool true), (26, .bool true), (27, .agg ar2_23), (28, .agg (numsA .u8 (encP EP.nil))), (29, .agg (numsA .u8 keyD0)), (30, .bool true), (31, .bool true), (0, .bool true)] (by simp [hvr2_0, hvr2_1, hvr2_2, hvr2_3, hvr2_4, hvr2_5, hvr2_6, hvr2_7, hvr2_8, hvr2_9, hvr2_10, hvr2_11, hvr2_12, hvr2_13, hvr2_14, hvr2_15, hvr2_16, hvr2_17, hvr2_18, hvr2_19, hvr2_20, hvr2_21, hvr2_22, hvr2_23, hvr2_24, hvr2_25, hvr2_26, hvr2_27, hvr2_28]) (by kernel_rfl)
  clear hI hvr2_0 hvr2_1 hvr2_2 hvr2_3 hvr2_4 hvr2_5 hvr2_6 hvr2_7 hvr2_8 hvr2_9 hvr2_10 hvr2_11 hvr2_12 hvr2_13 hvr2_14 hvr2_15 hvr2_16 hvr2_17 hvr2_18 hvr2_19 hvr2_20 hvr2_21 hvr2_22 hvr2_23 hvr2_24 hvr2_25 hvr2_26 hvr2_27 hvr2_28
  subst ha
  simp only [List.foldl_cons, List.foldl_nil, List.setIfInBounds_toArray, List.set_cons_zero, List.set_cons_succ]
  have Bxr1y2_2 := hupd.keep Bxr1y2_s1_0
  have HU2 := hh (HU1_0.out.trans hupd)
  clear hupd
  refine wpOps_nil ?_
  refine hK2 _ _ ?_
  clear hK2
  refine wp_ret ?_
  try dsimp only [Exit.then]
  try dsimp only [Exit.inBlock]
  exact bodyPost_ret (v := .bool true) (results_tmpQ (fn := Tryd.f23) (t := 0) rfl _ _ (.bool true) rfl) rfl ⟨rfl, HU2.out⟩
end Go.Proofs.YtdpafemcpbhlfaaDoor
