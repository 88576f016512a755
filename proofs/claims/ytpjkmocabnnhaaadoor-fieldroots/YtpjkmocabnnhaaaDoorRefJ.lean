/-
  The reference's numbers: Neg, Sub.
-/
import Derived.Test.YtpjkmocabnnhaaaDoorRefI
namespace Go.Proofs.YtpjkmocabnnhaaaDoor
open Go.RowKit

theorem eqNum (u v : Int) (w : World) : (Op.equalIn 10000 31 (.agg (numN u)) (.agg (numN v))).run Tryd.prog w = .ok (decide (digits 65536 16 u = digits 65536 16 v)) w :=
  run_equalIn_nums w 9998 31 25 .u64 16 _ _ Tryd.underlying31 Tryd.underlying25 size25 (digits_length _ _ _) (digits_length _ _ _)
theorem zeroN_num : zeroN = numN 0 := by unfold numN zeroN; congr 1
theorem zeroN_run0 (w : World) : (zeroValue 31).run Tryd.prog w = .ok (.agg (numN 0)) w := by rw [← zeroN_num]; exact zeroN_run w
theorem isZeroN (c : Int) (h0 : 0 ≤ c) (h1 : c < 115792089237316195423570985008687907853269984665640564039457584007913129639936) (w : World) : (Op.equalIn 10000 31 (.agg (numN c)) (.agg zeroN)).run Tryd.prog w = .ok (decide (c = 0)) w := by
  rw [zeroN_num, eqNum, numN_inj ⟨h0, h1⟩ (by omega)]
set_option maxRecDepth 100000 in
set_option maxHeartbeats 2000000 in
theorem rNeg_any (u n : Int) (w : World) (hok : NumOk u n) : Calls Tryd.prog 17 #[.agg (numN u)] w (RetN (-n) w) := by
  have hz := zeroN_run
  have hg := guardNum
  have hc0 := Int.emod_nonneg n (b := pp) (by decide)
  have hc1 := Int.emod_lt_of_pos n pp_pos
  have HC : Hid (Cong (n % pp) n) := Cong.mod n
  have HNv := Lib.hid (numN_size u)
  have Hok := Lib.hid hok
  have Hcb : Hid (0 ≤ n % pp ∧ n % pp < pp) := ⟨hc0, hc1⟩
  clear hok hc0 hc1
  have Hb0 := Lib.hid ((Blk.at1 w (numN u) 31).alloc (.cells zeroN 31))
  have Hb1 := Lib.hid (Blk.at2 w (.cells (numN u) 31) zeroN 31)
  go_enter Tryd.func17, Tryd.ntmps17
  go_wp2_with (refine wpList_loadBlk rfl 31 _ rfl w.heap.size 0 16 rfl 31 (numN u) _ Hb0.out Tryd.underlying31 rfl sizeNum (by rw [HNv.out]; omega) ?_; rw [extract_all _ _ HNv.out])
  refine (rCanon_ok u n _ Hok.out).mono ?_
  rintro e w1 ⟨rfl, hu⟩
  have HNc := Lib.hid (numN_size (n % pp))
  have Hb0' := Lib.hid (hu.blk Hb0.out (fun h => h))
  have Hb1' := Lib.hid (hu.blk Hb1.out (fun h => h))
  have Hu1 := Lib.hid ((((Upd.refl (fun _ => False) w).alloc _).alloc _).trans hu)
  generalize n % pp = c at *
  clear hu Hb0 Hb1 Hok
  have hcb : 0 ≤ c ∧ c < 115792089237316195423570985008687907853269984665640564039457584007913129639936 := by
    have := Hcb.out
    unfold pp at this
    omega
  have hiz := isZeroN c hcb.1 hcb.2
  clear hcb
  by_cases hc : c = 0
  · have hdec : decide (c = 0) = true := by simp [hc]
    rw [hdec] at hiz
    clear hdec
    have Hc := Lib.hid hc
    clear hc
    go_wp2_with (first
      | (refine wpList_storeBlk2 rfl 31 _ _ rfl w.heap.size 0 16 rfl (numN c) rfl 31 (numN u) Hb0'.out sizeNum HNc.out (by rw [HNv.out]; omega) (numsA_one _ _) ?_; intro w2 hb2 hu2 hz2; rw [splice_all _ _ 16 HNv.out HNc.out] at hb2; have Hb2 := Lib.hid hb2; have Hb3 := Lib.hid (hu2.blk Hb1'.out (by simp)); have Hu2 := Lib.hid (Hu1.out.step hu2 (fun i hi h => by omega)); clear hb2 hu2 hz2)
      | (refine wpList_loadBlk rfl 31 _ rfl w.heap.size 0 16 rfl 31 (numN c) _ Hb2.out Tryd.underlying31 rfl sizeNum (by rw [HNc.out]; omega) ?_; rw [extract_all _ _ HNc.out])
      | (refine wpList_storeBlk2 rfl 31 _ _ rfl (w.heap.size + 1) 0 16 rfl (numN c) rfl 31 _ Hb3.out sizeNum HNc.out (by rw [zeroN_size]; omega) (numsA_one _ _) ?_; intro wz hbz huz hzz; rw [splice_all _ _ 16 zeroN_size HNc.out] at hbz; have Hbz := Lib.hid hbz; have Huz := Lib.hid huz; clear hbz huz hzz))
    refine bodyPost_ret (v := .agg (numN c)) (results_cell_row (fn := Tryd.f17) (p := 2) (ty := 31) rfl _ _ (w.heap.size + 1) 31 _ (0, 0) _ rfl Hbz.out Tryd.underlying31 rfl (by rw [HNc.out]; exact sizeNum)) rfl ⟨c, ?_, rfl, Hu2.out.step Huz.out (fun i hi h => by omega)⟩
    have hcc := HC.out
    rw [Hc.out] at hcc ⊢
    refine ⟨by omega, by omega, ?_⟩
    have := Cong.sub (Cong.refl 0) hcc
    simpa using this
  · have hdec : decide (c = 0) = false := by simp [hc]
    rw [hdec] at hiz
    clear hdec
    have Hcb2 : Hid (0 < c ∧ c < pp) := ⟨by have := Hcb.out; omega, Hcb.out.2⟩
    have Hle : Hid (dig 65536 (digits 65536 16 c) ≤ dig 65536 (digits 65536 16 pp)) := by
      show _ ≤ _
      have := Hcb.out
      rw [dig16 pp (by decide) (by decide), dig16 c (by omega) (by unfold pp at this; omega)]
      omega
    have Hsub : Hid (numsA .u64 (digits 65536 16 (dig 65536 (digits 65536 16 pp) - dig 65536 (digits 65536 16 c))) = numN (pp - c)) := by
      show _ = _
      have := Hcb.out
      rw [dig16 pp (by decide) (by decide), dig16 c (by omega) (by unfold pp at this; omega)]
      rfl
    clear hc Hcb
    go_wp2_with (first
      | (refine wpList_storeBlk2 rfl 31 _ _ rfl w.heap.size 0 16 rfl (numN c) rfl 31 (numN u) Hb0'.out sizeNum HNc.out (by rw [HNv.out]; omega) (numsA_one _ _) ?_; intro w2 hb2 hu2 hz2; rw [splice_all _ _ 16 HNv.out HNc.out] at hb2; have Hb2 := Lib.hid hb2; have Hb3 := Lib.hid (hu2.blk Hb1'.out (by simp)); have Hu2 := Lib.hid (Hu1.out.step hu2 (fun i hi h => by omega)); clear hb2 hu2 hz2)
      | (refine wpList_loadBlk rfl 31 _ rfl w.heap.size 0 16 rfl 31 (numN c) _ Hb2.out Tryd.underlying31 rfl sizeNum (by rw [HNc.out]; omega) ?_; rw [extract_all _ _ HNc.out]))
    refine wp_region_slots #[true, true, true, false] ([.val (.agg (numN pp)), .val (.agg (numN c)), .val (.agg (numN (pp - c)))] : List SP) (by kernel_rfl) (by kernel_rfl) (by kernel_rfl) ?_ ?_
    · intro i o listed an wn ho hls hst hun hdep hI K' hK'
      have hi : i < 3 := by
        rcases Nat.lt_or_ge i 3 with h | h
        · exact h
        · exfalso
          have hq : i = 3 ∨ 4 ≤ i := by omega
          rcases hq with rfl | h2
          · cases hst
          · have := idx_lt ho; simp at this; omega
      have hcase : i = 0 ∨ i = 1 ∨ i = 2 := by omega
      rcases hcase with rfl | rfl | rfl
      · obtain rfl := Option.some.inj ho
        exact hI.stepCall (by kernel_rfl) hls rfl rfl rfl 37 #[] _ rfl #[] (by simp [Act.eval]) enterrPrime (.val (.agg (numN pp))) rfl rfl ((rPrime_any _).mono fun _ _ h => ⟨_, h.1, rfl, h.2⟩) hK'
      · obtain rfl := Option.some.inj ho
        exact hI.stepLoad (by kernel_rfl) hls rfl rfl rfl 31 1 rfl (by kernel_rfl) (w.heap.size) 16 rfl 31 (numN c) Hb2.out _ Tryd.underlying31 rfl sizeNum (numN_size _) rfl rfl hK'
      · obtain rfl := Option.some.inj ho
        obtain ⟨vp, hvp, hsp⟩ := hI.have 0 _ 9 (.val (.agg (numN pp))) rfl rfl rfl (hdep ⟨0, .data⟩ (by simp) rfl)
        obtain rfl := hsp
        obtain ⟨vq, hvq, hsq⟩ := hI.have 1 _ 10 (.val (.agg (numN c))) rfl rfl rfl (hdep ⟨1, .data⟩ (by simp) rfl)
        obtain rfl := hsq
        exact hI.stepCall (by kernel_rfl) hls rfl rfl rfl 36 #[.tmp 9, .tmp 10] _ rfl #[.agg (numN pp), .agg (numN c)] (by simp [eval_of hvp, eval_of hvq]) enterrminus (.val (.agg (numN (pp - c)))) rfl rfl ((rminus_any _ _ _ (digits_length _ _ _) (digits_length _ _ _) (digs16 pp) (digs16 c) Hle.out).mono fun _ _ h => ⟨_, h.1.trans (congrArg (fun b => Ending.returned (.agg b)) Hsub.out), rfl, h.2⟩) hK'
    · intro fuel an wn hf hI
      obtain ⟨v0, hv0, hs0⟩ := hI.have 0 _ 9 (.val (.agg (numN pp))) rfl rfl rfl rfl
      obtain rfl := hs0
      obtain ⟨v1, hv1, hs1⟩ := hI.have 1 _ 10 (.val (.agg (numN c))) rfl rfl rfl rfl
      obtain rfl := hs1
      obtain ⟨v2, hv2, hs2⟩ := hI.have 2 _ 11 (.val (.agg (numN (pp - c)))) rfl rfl rfl rfl
      obtain rfl := hs2
      have hupd := hI.upd
      have ha := hI.act [(9, .agg (numN pp)), (10, .agg (numN c)), (11, .agg (numN (pp - c)))] (by simp [hv0, hv1, hv2]) (by kernel_rfl)
      clear hI hv0 hv1 hv2
      subst ha
      simp only [List.foldl_cons, List.foldl_nil, List.setIfInBounds_toArray, List.set_cons_zero, List.set_cons_succ]
      have hf0 : left #[true, true, true, false] 4 = 1 := by kernel_rfl
      have hf1 : left #[true, true, true, false] 4 ≤ fuel := hf
      obtain ⟨fu, rfl⟩ : ∃ fu, fuel = fu + 1 := ⟨fuel - 1, by omega⟩
      clear hf hf0 hf1
      refine wpAny_ready (rs := [3]) (by kernel_rfl) (by simp) (AllReady.cons rfl (fun K hK => ?_) AllReady.nil)
      refine step_storeBlk2 rfl 31 (.tmp 2) (.tmp 11) rfl (w.heap.size + 1) 0 16 rfl (numN (pp - c)) rfl 31 zeroN (hupd.blk (show Blk _ _ _ _ from Hb3.out) (fun h => h)) sizeNum (numN_size _) (by rw [zeroN_size]; omega) (numsA_one _ _) ?_
      intro ws0 hs0 hus0 _
      rw [splice_all _ _ 16 zeroN_size (numN_size _)] at hs0
      refine hK _ _ ?_
      clear hK K
      dsimp only [Act.put]
      refine wpAny_done (by kernel_rfl) ?_ _
      go_wp2
      refine bodyPost_ret (v := .agg (numN (pp - c))) (results_cell_row (fn := Tryd.f17) (p := 2) (ty := 31) rfl _ _ (w.heap.size + 1) 31 _ (0, 0) _ rfl hs0 Tryd.underlying31 rfl (by rw [numN_size]; exact sizeNum)) rfl ⟨pp - c, ?_, rfl, (Hu2.out.drew.trans hupd).step hus0 (fun i hi h => by omega)⟩
      have hb := Hcb2.out
      refine ⟨by omega, by unfold pp at *; omega, ?_⟩
      have h1 : Cong (pp - c) (-c) := ⟨1, by omega⟩
      have h2 := Cong.sub (Cong.refl 0) HC.out
      rw [Int.zero_sub, Int.zero_sub] at h2
      exact h1.trans h2
set_option maxRecDepth 100000 in
set_option maxHeartbeats 2000000 in
theorem rSub_any (u v m n : Int) (w : World) (hu : NumOk u m) (hv : NumOk v n) : Calls Tryd.prog 15 #[.agg (numN u), .agg (numN v)] w (RetN (m - n) w) := by
  have hz := zeroN_run
  have HU := Lib.hid hu
  have HV := Lib.hid hv
  clear hu hv
  have Hb0 := Lib.hid (((Blk.at1 w (numN u) 31).alloc (.cells (numN v) 31)).alloc (.cells zeroN 31))
  have Hb1 := Lib.hid ((Blk.at2 w (.cells (numN u) 31) (numN v) 31).alloc (.cells zeroN 31))
  have Hb2 := Lib.hid (Blk.at3 w (.cells (numN u) 31) (.cells (numN v) 31) zeroN 31)
  go_enter Tryd.func15, Tryd.ntmps15
  go_wp2
  refine wp_region_slots #[true, true, true, true, false] ([.val (.agg (numN u)), .val (.agg (numN v)), .like (LikeN (-n)), .like (LikeN (m + (-n)))] : List SP) (by kernel_rfl) (by kernel_rfl) (by kernel_rfl) ?_ ?_
  · intro i o listed an wn ho hls hst hun hdep hI K' hK'
    have hi : i < 4 := by
      rcases Nat.lt_or_ge i 4 with h | h
      · exact h
      · exfalso
        have hq : i = 4 ∨ 5 ≤ i := by omega
        rcases hq with rfl | h2
        · cases hst
        · have := idx_lt ho; simp at this; omega
    have hcase : i = 0 ∨ i = 1 ∨ i = 2 ∨ i = 3 := by omega
    rcases hcase with rfl | rfl | rfl | rfl
    · obtain rfl := Option.some.inj ho
      exact hI.stepLoad (by kernel_rfl) hls rfl rfl rfl 31 2 rfl (by kernel_rfl) (w.heap.size) 16 rfl 31 (numN u) Hb0.out _ Tryd.underlying31 rfl sizeNum (numN_size _) rfl rfl hK'
    · obtain rfl := Option.some.inj ho
      exact hI.stepLoad (by kernel_rfl) hls rfl rfl rfl 31 3 rfl (by kernel_rfl) (w.heap.size + 1) 16 rfl 31 (numN v) Hb1.out _ Tryd.underlying31 rfl sizeNum (numN_size _) rfl rfl hK'
    · obtain rfl := Option.some.inj ho
      obtain ⟨vp, hvp, hsp⟩ := hI.have 1 _ 6 (.val (.agg (numN v))) rfl rfl rfl (hdep ⟨1, .data⟩ (by simp) rfl)
      obtain rfl := hsp
      exact hI.stepCall (by kernel_rfl) hls rfl rfl rfl 17 #[.tmp 6] _ rfl #[.agg (numN v)] (by simp [eval_of hvp]) enterrNeg (.like (LikeN (-n))) rfl rfl ((rNeg_any v n _ HV.out).mono fun _ _ h => h.sp) hK'
    · obtain rfl := Option.some.inj ho
      obtain ⟨vp, hvp, hsp⟩ := hI.have 0 _ 5 (.val (.agg (numN u))) rfl rfl rfl (hdep ⟨0, .data⟩ (by simp) rfl)
      obtain rfl := hsp
      obtain ⟨vq, hvq, rq, rfl, hNq⟩ := hI.have 2 _ 7 (.like (LikeN (-n))) rfl rfl rfl (hdep ⟨2, .data⟩ (by simp) rfl)
      exact hI.stepCall (by kernel_rfl) hls rfl rfl rfl 13 #[.tmp 5, .tmp 7] _ rfl #[.agg (numN u), .agg (numN rq)] (by simp [eval_of hvp, eval_of hvq]) enterrAdd (.like (LikeN (m + (-n)))) rfl rfl ((rAdd_any u rq m (-n) _ HU.out hNq).mono fun _ _ h => h.sp) hK'
  · intro fuel an wn hf hI
    obtain ⟨v0, hv0, hs0⟩ := hI.have 0 _ 5 (.val (.agg (numN u))) rfl rfl rfl rfl
    obtain rfl := hs0
    obtain ⟨v1, hv1, hs1⟩ := hI.have 1 _ 6 (.val (.agg (numN v))) rfl rfl rfl rfl
    obtain rfl := hs1
    obtain ⟨v2, hv2, r2_, rfl, hN2⟩ := hI.have 2 _ 7 (.like (LikeN (-n))) rfl rfl rfl rfl
    obtain ⟨v3, hv3, r3_, rfl, hN3⟩ := hI.have 3 _ 8 (.like (LikeN (m + (-n)))) rfl rfl rfl rfl
    have hupd := hI.upd
    have ha := hI.act [(5, .agg (numN u)), (6, .agg (numN v)), (7, .agg (numN r2_)), (8, .agg (numN r3_))] (by simp [hv0, hv1, hv2, hv3]) (by kernel_rfl)
    clear hI hv0 hv1 hv2 hv3
    subst ha
    simp only [List.foldl_cons, List.foldl_nil, List.setIfInBounds_toArray, List.set_cons_zero, List.set_cons_succ]
    have hf0 : left #[true, true, true, true, false] 5 = 1 := by kernel_rfl
    have hf1 : left #[true, true, true, true, false] 5 ≤ fuel := hf
    obtain ⟨fu, rfl⟩ : ∃ fu, fuel = fu + 1 := ⟨fuel - 1, by omega⟩
    clear hf hf0 hf1
    refine wpAny_ready (rs := [4]) (by kernel_rfl) (by simp) (AllReady.cons rfl (fun K hK => ?_) AllReady.nil)
    refine step_storeBlk2 rfl 31 (.tmp 4) (.tmp 8) rfl (w.heap.size + 1 + 1) 0 16 rfl (numN r3_) rfl 31 zeroN (hupd.blk (show Blk _ _ _ _ from Hb2.out) (fun h => h)) sizeNum (numN_size _) (by rw [zeroN_size]; omega) (numsA_one _ _) ?_
    intro ws0 hs0 hus0 _
    rw [splice_all _ _ 16 zeroN_size (numN_size _)] at hs0
    refine hK _ _ ?_
    clear hK K
    dsimp only [Act.put]
    refine wpAny_done (by kernel_rfl) ?_ _
    go_wp2
    refine bodyPost_ret (v := .agg (numN r3_)) (results_cell_row (fn := Tryd.f15) (p := 4) (ty := 31) rfl _ _ (w.heap.size + 1 + 1) 31 _ (0, 0) _ rfl hs0 Tryd.underlying31 rfl (by rw [numN_size]; exact sizeNum)) rfl ⟨r3_, ?_, rfl, (((((Upd.refl (fun _ => False) w).alloc _).alloc _).alloc _).drew.trans hupd).step hus0 (fun i hi h => by omega)⟩
    rw [Int.sub_eq_add_neg]
    exact hN3
end Go.Proofs.YtpjkmocabnnhaaaDoor
