/-
  The reference's numbers: Add.
-/
/-
  The reference's numbers: Neg, Sub.
-/
/-
  A drawn region's operations that a guard leaves out; small operations.
-/
/-
  A drawn region's operations behind its stores; two results; numbers of the reference compared.
-/
import Derived.Test.YtdpafemcpbhlfaaDoorRefN
import Derived.Test.YtdpafemcpbhlfaaDoorLists
import Derived.Test.YtdpafemcpbhlfaaDoorCanon
namespace Go.Proofs.YtdpafemcpbhlfaaDoor
set_option maxRecDepth 100000
open Go.RowKit

set_option maxHeartbeats 2000000 in
theorem rAdd_any (u v m n : Int) (w : World) (hu : NumOk u m) (hv : NumOk v n) : Calls Tryd.prog 67 #[.agg (numN u), .agg (numN v)] w (RetN (m + n) w) := by
  have hz := zeroN_run
  have hz2 := zeroD_run
  have HC := Lib.hid (Cong.add hu.2.2 hv.2.2)
  have HU := Lib.hid (dig16 u hu.1 hu.2.1)
  have HV := Lib.hid (dig16 v hv.1 hv.2.1)
  have HGA := Lib.hid (digs16 u)
  have HGB := Lib.hid (digs16 v)
  clear hu hv
  go_enter Tryd.func67, Tryd.ntmps67
  go_wp2
  go_loopw [6] (fun i wr => ∃ (k : Nat) (D : List Int), k ≤ 16 ∧ i = .int .i64 k ∧ TwoRel w wr u v D ∧ AddR (digits 65536 16 u) (digits 65536 16 v) D k) (fun i _ => 16 - (intOf i).toNat)
  case atStart => exact ⟨0, _, by omega, rfl, TwoRel.start w u v, AddR.start _ _⟩
  case round =>
    obtain ⟨k, D, hk, rfl, hrel, hadd⟩ := hrel
    have hfr := hrel.d.frozen
    by_cases hlt : k < 16
    · have c1 := hrel.cell k (by omega)
      have c2 := hrel.cellA k hlt
      have c3 := hrel.cellB k hlt
      have ha := HGA.out.get (B := 65536) (by omega) k
      have hb := HGB.out.get (B := 65536) (by omega) k
      have Hrel := Lib.hid hrel
      have Hnext := Lib.hid (hadd.step hlt HGA.out HGB.out)
      generalize (digits 65536 16 u).getD k 0 = x at *
      generalize (digits 65536 16 v).getD k 0 = y at *
      have q5 : IntKind.u64.wrap (x + y) = x + y := IntWalk.u64_in _ (by omega)
      clear hrel hadd ha hb
      go_wp2
      go_region
      clear q5 c1 c2 c3
      go_wp2
      exact ⟨⟨k + 1, _, by omega, by go_num, Hrel.out.set 1 k _, Hnext.out⟩, by simp [intOf]; omega⟩
    · obtain rfl : k = 16 := by omega
      have hdone := hadd.done HGA.out HGB.out (digits_length _ _ _) (digits_length _ _ _)
      rw [HU.out, HV.out] at hdone
      have Hrel := Lib.hid hrel
      have HD := Lib.hid hdone
      have HSm := Lib.hid hadd.small
      clear hrel hadd hdone hfr
      have hd16 : decide (((16 : Nat) : Int) < 16) = false := by decide
      have HS : Hid ((numsA .u64 D).size = 32) := by show _ = _; rw [numsA_size]; exact Hrel.out.len
      go_wp2_with (refine wpList_loadBlk rfl 117 _ rfl (w.heap.size + 1 + 1 + 1) 0 32 rfl 117 (numsA .u64 D) _ Hrel.out.d Tryd.underlying117 rfl sizeD (by rw [HS.out]; omega) ?_; rw [extract_all _ _ HS.out])
      refine (rfold_any D _ Hrel.out.len HSm.out HD.out.2).mono ?_
      rintro e w1 ⟨r, hr0, hr1, hrc, rfl, hu⟩
      have HN := Lib.hid (numN_size r)
      have Hok : Hid (NumOk r (m + n)) := ⟨hr0, hr1, by rw [HD.out.1] at hrc; exact hrc.trans HC.out⟩
      have Hres := Lib.hid (hu.blk Hrel.out.res (fun h => h))
      have Hu := Lib.hid (Hrel.out.upd.trans hu)
      clear hu hr0 hr1 hrc
      go_wp2_with (refine wpList_storeBlk2 rfl 45 _ _ rfl (w.heap.size + 1 + 1) 0 16 rfl (numN r) rfl 45 _ Hres.out sizeNum HN.out (by rw [zeroN_size]; omega) (numsA_one _ _) ?_; intro wz hbz huz hzz; rw [splice_all _ _ 16 zeroN_size HN.out] at hbz; have Hbz := Lib.hid hbz; have Huz := Lib.hid huz; clear hbz huz hzz)
      exact bodyPost_ret (v := .agg (numN r)) (results_cell_row (fn := Tryd.f67) (p := 4) (ty := 45) rfl _ _ (w.heap.size + 1 + 1) 45 _ (0, 0) _ rfl Hbz.out Tryd.underlying45 rfl (by rw [HN.out]; exact sizeNum)) rfl ⟨r, Hok.out, rfl, Hu.out.step Huz.out (fun i hi h => by omega)⟩
theorem enterrAdd (vs : Array Value) (w : World) : (callFunc 67 vs).run Tryd.prog w = .ok (.enter 67 vs) w := run_enter Tryd.func67 (by kernel_rfl) (by kernel_rfl) vs w
theorem enterrNeg (vs : Array Value) (w : World) : (callFunc 68 vs).run Tryd.prog w = .ok (.enter 68 vs) w := run_enter Tryd.func68 (by kernel_rfl) (by kernel_rfl) vs w
/-- Two numbers as cells are the same just if they are. -/
theorem numN_inj {u v : Int} (hu : 0 ≤ u ∧ u < 115792089237316195423570985008687907853269984665640564039457584007913129639936) (hv : 0 ≤ v ∧ v < 115792089237316195423570985008687907853269984665640564039457584007913129639936) : decide (digits 65536 16 u = digits 65536 16 v) = decide (u = v) := by
  rw [decide_eq_decide]
  constructor
  · intro h
    rw [← dig16 u hu.1 hu.2, h, dig16 v hv.1 hv.2]
  · intro h; rw [h]
theorem guardNum : Tryd.prog.eqGuardType Tryd.prog.depth 45 = false := by kernel_rfl
end Go.Proofs.YtdpafemcpbhlfaaDoor
namespace Go.Proofs.YtdpafemcpbhlfaaDoor
set_option maxRecDepth 100000
open Go.RowKit

theorem eqNum (u v : Int) (w : World) : (Op.equalIn 10000 45 (.agg (numN u)) (.agg (numN v))).run Tryd.prog w = .ok (decide (digits 65536 16 u = digits 65536 16 v)) w :=
  run_equalIn_nums w 9998 45 36 .u64 16 _ _ Tryd.underlying45 Tryd.underlying36 size25 (digits_length _ _ _) (digits_length _ _ _)
theorem zeroN_num : zeroN = numN 0 := by unfold numN zeroN; congr 1
theorem zeroN_run0 (w : World) : (zeroValue 45).run Tryd.prog w = .ok (.agg (numN 0)) w := by rw [← zeroN_num]; exact zeroN_run w
theorem isZeroN (c : Int) (h0 : 0 ≤ c) (h1 : c < 115792089237316195423570985008687907853269984665640564039457584007913129639936) (w : World) : (Op.equalIn 10000 45 (.agg (numN c)) (.agg zeroN)).run Tryd.prog w = .ok (decide (c = 0)) w := by
  rw [zeroN_num, eqNum, numN_inj ⟨h0, h1⟩ (by omega)]
set_option maxRecDepth 100000 in
set_option maxHeartbeats 2000000 in
theorem rNeg_any (u n : Int) (w : World) (hok : NumOk u n) : Calls Tryd.prog 68 #[.agg (numN u)] w (RetN (-n) w) := by
  have hz := zeroN_run
  have hg := guardNum
  have hc0 := Int.emod_nonneg n (b := pp) (by decide)
  have hc1 := Int.emod_lt_of_pos n pp_pos
  have HC : Hid (Cong (n % pp) n) := Cong.mod n
  have HNv := Lib.hid (numN_size u)
  have Hok := Lib.hid hok
  have Hcb : Hid (0 ≤ n % pp ∧ n % pp < pp) := ⟨hc0, hc1⟩
  clear hok hc0 hc1
  have Hb0 := Lib.hid ((Blk.at1 w (numN u) 45).alloc (.cells zeroN 45))
  have Hb1 := Lib.hid (Blk.at2 w (.cells (numN u) 45) zeroN 45)
  go_enter Tryd.func68, Tryd.ntmps68
  go_wp2_with (refine wpList_loadBlk rfl 45 _ rfl w.heap.size 0 16 rfl 45 (numN u) _ Hb0.out Tryd.underlying45 rfl sizeNum (by rw [HNv.out]; omega) ?_; rw [extract_all _ _ HNv.out])
  refine (rCanon_ok u n _ Hok.out).mono ?_
  rintro e w1 ⟨rfl, hu⟩
  have HNc := Lib.hid (numN_size (n % pp))
  have Hb0' := Lib.hid (hu.blk Hb0.out (fun h => h))
  have Hb1' := Lib.hid (hu.blk Hb1.out (fun h => h))
  have Hu1 := Lib.hid ((((Upd.refl (fun _ => False) w).alloc _).alloc _).trans hu)
  generalize n % pp = c at *
  clear hu Hb0 Hb1 Hok
  have hcb : 0 ≤ c ∧ c < 115792089237316195423570985008687907853269984665640564039457584007913129639936 := by
    have := Hcb.out
    unfold pp at this
    omega
  have hiz := isZeroN c hcb.1 hcb.2
  clear hcb
  by_cases hc : c = 0
  · have hdec : decide (c = 0) = true := by simp [hc]
    rw [hdec] at hiz
    clear hdec
    have Hc := Lib.hid hc
    clear hc
    go_wp2_with (first
      | (refine wpList_storeBlk2 rfl 45 _ _ rfl w.heap.size 0 16 rfl (numN c) rfl 45 (numN u) Hb0'.out sizeNum HNc.out (by rw [HNv.out]; omega) (numsA_one _ _) ?_; intro w2 hb2 hu2 hz2; rw [splice_all _ _ 16 HNv.out HNc.out] at hb2; have Hb2 := Lib.hid hb2; have Hb3 := Lib.hid (hu2.blk Hb1'.out (by simp)); have Hu2 := Lib.hid (Hu1.out.step hu2 (fun i hi h => by omega)); clear hb2 hu2 hz2)
      | (refine wpList_loadBlk rfl 45 _ rfl w.heap.size 0 16 rfl 45 (numN c) _ Hb2.out Tryd.underlying45 rfl sizeNum (by rw [HNc.out]; omega) ?_; rw [extract_all _ _ HNc.out])
      | (refine wpList_storeBlk2 rfl 45 _ _ rfl (w.heap.size + 1) 0 16 rfl (numN c) rfl 45 _ Hb3.out sizeNum HNc.out (by rw [zeroN_size]; omega) (numsA_one _ _) ?_; intro wz hbz huz hzz; rw [splice_all _ _ 16 zeroN_size HNc.out] at hbz; have Hbz := Lib.hid hbz; have Huz := Lib.hid huz; clear hbz huz hzz))
    refine bodyPost_ret (v := .agg (numN c)) (results_cell_row (fn := Tryd.f68) (p := 2) (ty := 45) rfl _ _ (w.heap.size + 1) 45 _ (0, 0) _ rfl Hbz.out Tryd.underlying45 rfl (by rw [HNc.out]; exact sizeNum)) rfl ⟨c, ?_, rfl, Hu2.out.step Huz.out (fun i hi h => by omega)⟩
    have hcc := HC.out
    rw [Hc.out] at hcc ⊢
    refine ⟨by omega, by omega, ?_⟩
    have := Cong.sub (Cong.refl 0) hcc
    simpa using this
  · have hdec : decide (c = 0) = false := by simp [hc]
    rw [hdec] at hiz
    clear hdec
    have Hcb2 : Hid (0 < c ∧ c < pp) := ⟨by have := Hcb.out; omega, Hcb.out.2⟩
    have Hle : Hid (dig 65536 (digits 65536 16 c) ≤ dig 65536 (digits 65536 16 pp)) := by
      show _ ≤ _
      have := Hcb.out
      rw [dig16 pp (by decide) (by decide), dig16 c (by omega) (by unfold pp at this; omega)]
      omega
    have Hsub : Hid (numsA .u64 (digits 65536 16 (dig 65536 (digits 65536 16 pp) - dig 65536 (digits 65536 16 c))) = numN (pp - c)) := by
      show _ = _
      have := Hcb.out
      rw [dig16 pp (by decide) (by decide), dig16 c (by omega) (by unfold pp at this; omega)]
      rfl
    clear hc Hcb
    go_wp2_with (first
      | (refine wpList_storeBlk2 rfl 45 _ _ rfl w.heap.size 0 16 rfl (numN c) rfl 45 (numN u) Hb0'.out sizeNum HNc.out (by rw [HNv.out]; omega) (numsA_one _ _) ?_; intro w2 hb2 hu2 hz2; rw [splice_all _ _ 16 HNv.out HNc.out] at hb2; have Hb2 := Lib.hid hb2; have Hb3 := Lib.hid (hu2.blk Hb1'.out (by simp)); have Hu2 := Lib.hid (Hu1.out.step hu2 (fun i hi h => by omega)); clear hb2 hu2 hz2)
      | (refine wpList_loadBlk rfl 45 _ rfl w.heap.size 0 16 rfl 45 (numN c) _ Hb2.out Tryd.underlying45 rfl sizeNum (by rw [HNc.out]; omega) ?_; rw [extract_all _ _ HNc.out]))
    refine wp_region_slots #[true, true, true, false] ([.val (.agg (numN pp)), .val (.agg (numN c)), .val (.agg (numN (pp - c)))] : List SP) (by kernel_rfl) (by kernel_rfl) (by kernel_rfl) ?_ ?_
    · intro i o listed an wn ho hls hst hun hdep hI K' hK'
      have hi : i < 3 := by
        rcases Nat.lt_or_ge i 3 with h | h
        · exact h
        · exfalso
          have hq : i = 3 ∨ 4 ≤ i := by omega
          rcases hq with rfl | h2
          · cases hst
          · have := idx_lt ho; simp at this; omega
      have hcase : i = 0 ∨ i = 1 ∨ i = 2 := by omega
      rcases hcase with rfl | rfl | rfl
      · obtain rfl := Option.some.inj ho
        exact hI.stepCall (by kernel_rfl) hls rfl rfl rfl 92 #[] _ rfl #[] (by simp) enterrPrime (.val (.agg (numN pp))) rfl rfl ((rPrime_any _).mono fun _ _ h => ⟨_, h.1, rfl, h.2⟩) hK'
      · obtain rfl := Option.some.inj ho
        exact hI.stepLoad (by kernel_rfl) hls rfl rfl rfl 45 1 rfl (by kernel_rfl) (w.heap.size) 16 rfl 45 (numN c) Hb2.out _ Tryd.underlying45 rfl sizeNum (numN_size _) rfl rfl hK'
      · obtain rfl := Option.some.inj ho
        obtain ⟨vp, hvp, hsp⟩ := hI.have 0 _ 9 (.val (.agg (numN pp))) rfl rfl rfl (hdep ⟨0, .data⟩ (by simp) rfl)
        obtain rfl := hsp
        obtain ⟨vq, hvq, hsq⟩ := hI.have 1 _ 10 (.val (.agg (numN c))) rfl rfl rfl (hdep ⟨1, .data⟩ (by simp) rfl)
        obtain rfl := hsq
        exact hI.stepCall (by kernel_rfl) hls rfl rfl rfl 91 #[.tmp 9, .tmp 10] _ rfl #[.agg (numN pp), .agg (numN c)] (by simp [eval_of hvp, eval_of hvq]) enterrminus (.val (.agg (numN (pp - c)))) rfl rfl ((rminus_any _ _ _ (digits_length _ _ _) (digits_length _ _ _) (digs16 pp) (digs16 c) Hle.out).mono fun _ _ h => ⟨_, h.1.trans (congrArg (fun b => Ending.returned (.agg b)) Hsub.out), rfl, h.2⟩) hK'
    · intro fuel an wn hf hI
      obtain ⟨v0, hv0, hs0⟩ := hI.have 0 _ 9 (.val (.agg (numN pp))) rfl rfl rfl rfl
      obtain rfl := hs0
      obtain ⟨v1, hv1, hs1⟩ := hI.have 1 _ 10 (.val (.agg (numN c))) rfl rfl rfl rfl
      obtain rfl := hs1
      obtain ⟨v2, hv2, hs2⟩ := hI.have 2 _ 11 (.val (.agg (numN (pp - c)))) rfl rfl rfl rfl
      obtain rfl := hs2
      have hupd := hI.upd
      have ha := hI.act [(9, .agg (numN pp)), (10, .agg (numN c)), (11, .agg (numN (pp - c)))] (by simp [hv0, hv1, hv2]) (by kernel_rfl)
      clear hI hv0 hv1 hv2
      subst ha
      simp only [List.foldl_cons, List.foldl_nil, List.setIfInBounds_toArray, List.set_cons_zero, List.set_cons_succ]
      have hf0 : left #[true, true, true, false] 4 = 1 := by kernel_rfl
      have hf1 : left #[true, true, true, false] 4 ≤ fuel := hf
      obtain ⟨fu, rfl⟩ : ∃ fu, fuel = fu + 1 := ⟨fuel - 1, by omega⟩
      clear hf hf0 hf1
      refine wpAny_ready (rs := [3]) (by kernel_rfl) (by simp) (AllReady.cons rfl (fun K hK => ?_) AllReady.nil)
      refine step_storeBlk2 rfl 45 (.tmp 2) (.tmp 11) rfl (w.heap.size + 1) 0 16 rfl (numN (pp - c)) rfl 45 zeroN (hupd.blk (show Blk _ _ _ _ from Hb3.out) (fun h => h)) sizeNum (numN_size _) (by rw [zeroN_size]; omega) (numsA_one _ _) ?_
      intro ws0 hs0 hus0 _
      rw [splice_all _ _ 16 zeroN_size (numN_size _)] at hs0
      refine hK _ _ ?_
      clear hK K
      dsimp only [Act.put]
      refine wpAny_done (by kernel_rfl) ?_ _
      go_wp2
      refine bodyPost_ret (v := .agg (numN (pp - c))) (results_cell_row (fn := Tryd.f68) (p := 2) (ty := 45) rfl _ _ (w.heap.size + 1) 45 _ (0, 0) _ rfl hs0 Tryd.underlying45 rfl (by rw [numN_size]; exact sizeNum)) rfl ⟨pp - c, ?_, rfl, (Hu2.out.drew.trans hupd).step hus0 (fun i hi h => by omega)⟩
      have hb := Hcb2.out
      refine ⟨by omega, by unfold pp at *; omega, ?_⟩
      have h1 : Cong (pp - c) (-c) := ⟨1, by omega⟩
      have h2 := Cong.sub (Cong.refl 0) HC.out
      rw [Int.zero_sub, Int.zero_sub] at h2
      exact h1.trans h2
set_option maxRecDepth 100000 in
set_option maxHeartbeats 2000000 in
theorem rSub_any (u v m n : Int) (w : World) (hu : NumOk u m) (hv : NumOk v n) : Calls Tryd.prog 66 #[.agg (numN u), .agg (numN v)] w (RetN (m - n) w) := by
  have hz := zeroN_run
  have HU := Lib.hid hu
  have HV := Lib.hid hv
  clear hu hv
  have Hb0 := Lib.hid (((Blk.at1 w (numN u) 45).alloc (.cells (numN v) 45)).alloc (.cells zeroN 45))
  have Hb1 := Lib.hid ((Blk.at2 w (.cells (numN u) 45) (numN v) 45).alloc (.cells zeroN 45))
  have Hb2 := Lib.hid (Blk.at3 w (.cells (numN u) 45) (.cells (numN v) 45) zeroN 45)
  go_enter Tryd.func66, Tryd.ntmps66
  go_wp2
  refine wp_region_slots #[true, true, true, true, false] ([.val (.agg (numN u)), .val (.agg (numN v)), .like (LikeN (-n)), .like (LikeN (m + (-n)))] : List SP) (by kernel_rfl) (by kernel_rfl) (by kernel_rfl) ?_ ?_
  · intro i o listed an wn ho hls hst hun hdep hI K' hK'
    have hi : i < 4 := by
      rcases Nat.lt_or_ge i 4 with h | h
      · exact h
      · exfalso
        have hq : i = 4 ∨ 5 ≤ i := by omega
        rcases hq with rfl | h2
        · cases hst
        · have := idx_lt ho; simp at this; omega
    have hcase : i = 0 ∨ i = 1 ∨ i = 2 ∨ i = 3 := by omega
    rcases hcase with rfl | rfl | rfl | rfl
    · obtain rfl := Option.some.inj ho
      exact hI.stepLoad (by kernel_rfl) hls rfl rfl rfl 45 2 rfl (by kernel_rfl) (w.heap.size) 16 rfl 45 (numN u) Hb0.out _ Tryd.underlying45 rfl sizeNum (numN_size _) rfl rfl hK'
    · obtain rfl := Option.some.inj ho
      exact hI.stepLoad (by kernel_rfl) hls rfl rfl rfl 45 3 rfl (by kernel_rfl) (w.heap.size + 1) 16 rfl 45 (numN v) Hb1.out _ Tryd.underlying45 rfl sizeNum (numN_size _) rfl rfl hK'
    · obtain rfl := Option.some.inj ho
      obtain ⟨vp, hvp, hsp⟩ := hI.have 1 _ 6 (.val (.agg (numN v))) rfl rfl rfl (hdep ⟨1, .data⟩ (by simp) rfl)
      obtain rfl := hsp
      exact hI.stepCall (by kernel_rfl) hls rfl rfl rfl 68 #[.tmp 6] _ rfl #[.agg (numN v)] (by simp [eval_of hvp]) enterrNeg (.like (LikeN (-n))) rfl rfl ((rNeg_any v n _ HV.out).mono fun _ _ h => h.sp) hK'
    · obtain rfl := Option.some.inj ho
      obtain ⟨vp, hvp, hsp⟩ := hI.have 0 _ 5 (.val (.agg (numN u))) rfl rfl rfl (hdep ⟨0, .data⟩ (by simp) rfl)
      obtain rfl := hsp
      obtain ⟨vq, hvq, rq, rfl, hNq⟩ := hI.have 2 _ 7 (.like (LikeN (-n))) rfl rfl rfl (hdep ⟨2, .data⟩ (by simp) rfl)
      exact hI.stepCall (by kernel_rfl) hls rfl rfl rfl 67 #[.tmp 5, .tmp 7] _ rfl #[.agg (numN u), .agg (numN rq)] (by simp [eval_of hvp, eval_of hvq]) enterrAdd (.like (LikeN (m + (-n)))) rfl rfl ((rAdd_any u rq m (-n) _ HU.out hNq).mono fun _ _ h => h.sp) hK'
  · intro fuel an wn hf hI
    obtain ⟨v0, hv0, hs0⟩ := hI.have 0 _ 5 (.val (.agg (numN u))) rfl rfl rfl rfl
    obtain rfl := hs0
    obtain ⟨v1, hv1, hs1⟩ := hI.have 1 _ 6 (.val (.agg (numN v))) rfl rfl rfl rfl
    obtain rfl := hs1
    obtain ⟨v2, hv2, r2_, rfl, hN2⟩ := hI.have 2 _ 7 (.like (LikeN (-n))) rfl rfl rfl rfl
    obtain ⟨v3, hv3, r3_, rfl, hN3⟩ := hI.have 3 _ 8 (.like (LikeN (m + (-n)))) rfl rfl rfl rfl
    have hupd := hI.upd
    have ha := hI.act [(5, .agg (numN u)), (6, .agg (numN v)), (7, .agg (numN r2_)), (8, .agg (numN r3_))] (by simp [hv0, hv1, hv2, hv3]) (by kernel_rfl)
    clear hI hv0 hv1 hv2 hv3
    subst ha
    simp only [List.foldl_cons, List.foldl_nil, List.setIfInBounds_toArray, List.set_cons_zero, List.set_cons_succ]
    have hf0 : left #[true, true, true, true, false] 5 = 1 := by kernel_rfl
    have hf1 : left #[true, true, true, true, false] 5 ≤ fuel := hf
    obtain ⟨fu, rfl⟩ : ∃ fu, fuel = fu + 1 := ⟨fuel - 1, by omega⟩
    clear hf hf0 hf1
    refine wpAny_ready (rs := [4]) (by kernel_rfl) (by simp) (AllReady.cons rfl (fun K hK => ?_) AllReady.nil)
    refine step_storeBlk2 rfl 45 (.tmp 4) (.tmp 8) rfl (w.heap.size + 1 + 1) 0 16 rfl (numN r3_) rfl 45 zeroN (hupd.blk (show Blk _ _ _ _ from Hb2.out) (fun h => h)) sizeNum (numN_size _) (by rw [zeroN_size]; omega) (numsA_one _ _) ?_
    intro ws0 hs0 hus0 _
    rw [splice_all _ _ 16 zeroN_size (numN_size _)] at hs0
    refine hK _ _ ?_
    clear hK K
    dsimp only [Act.put]
    refine wpAny_done (by kernel_rfl) ?_ _
    go_wp2
    refine bodyPost_ret (v := .agg (numN r3_)) (results_cell_row (fn := Tryd.f66) (p := 4) (ty := 45) rfl _ _ (w.heap.size + 1 + 1) 45 _ (0, 0) _ rfl hs0 Tryd.underlying45 rfl (by rw [numN_size]; exact sizeNum)) rfl ⟨r3_, ?_, rfl, (((((Upd.refl (fun _ => False) w).alloc _).alloc _).alloc _).drew.trans hupd).step hus0 (fun i hi h => by omega)⟩
    rw [Int.sub_eq_add_neg]
    exact hN3
end Go.Proofs.YtdpafemcpbhlfaaDoor
namespace Go.Proofs.YtdpafemcpbhlfaaDoor
set_option maxRecDepth 100000
open Go.RowKit

section
variable {P : Program} {ops : Array Oper} {Q : Exit → Act → World → Prop} {sp : List SP} {a0 : Act} {w0 : World} {listed : Array Bool} {a : Act} {w : World} {base : Nat} {K' : Act → World → Prop} {i : Nat} {o : Oper} {d : Nat}
theorem wanted_not {j : Nat} {oj : Oper} {dj : Nat} {want b : Bool} (hg : o.guard = some (j, want)) (hoj : ops[j]? = some oj) (hdj : oj.dst = some dj) (hv : a.tmps[dj]? = some (.bool b)) (hb : b = !want) : Region.wanted o (yielded ops a.tmps) = false := by
  subst hb
  cases want <;> simp [Region.wanted, hg, yielded, hoj, hdj, hv]
theorem Slots.stepSkip (h : Slots ops (specOf base sp) a0 w0 listed a w) (hdst : dstB ops a0.tmps.size = true) (hls : listed.size = ops.size) (ho : ops[i]? = some o) (hw : Region.wanted o (yielded ops a.tmps) = false) (hd : o.dst = some d) (hsp : sp[i]? = some (.val undef)) (hnew : newB o = false)
    (hK' : ∀ a' w', Slots ops (specOf base sp) a0 w0 (listed.setIfInBounds i true) a' w' → K' a' w') : if Region.wanted o (yielded ops a.tmps) = true then Oper.wp P o a w K' Q else K' (a.put o.dst undef) w := by
  rw [if_neg (by rw [hw]; simp)]
  exact hK' _ _ (h.put hdst (specOf_stable base sp) hls ho hd (Upd.refl _ w) (fun s hs => by rw [hsp] at hs; cases hs; rfl) (fun hq => by rw [hnew] at hq; cases hq))
end
/-- Two keys that are the same list are not held to differ. -/
theorem run_diffKey {o : Oper} {a : Act} {p q : Operand} {A B : List Int} (ho : o.op = .binOp .neq 23 p q 23) (hp : a.eval p = .agg (numsA .u8 A)) (hq : a.eval q = .agg (numsA .u8 B)) (hA : A.length = 32) (hB : B.length = 32) (h : A = B) (w : World) :
    (execOp a.eval o).run Tryd.prog w = .ok (.value (.bool false)) w := by
  have he := eqKey A B hA hB
  have hg := guardKey'
  rw [decide_eq_true h] at he
  generalize a.eval = ev at hp hq ⊢
  unfold execOp
  simp only [ho]
  simp [hp, hq, go_sem, he, hg]
theorem run_build1 {o : Oper} {a : Act} {x : Int} (ho : o.op = .build 23 #[(0, .const (.int .u8 x))]) (hc : a.eval (.const (.int .u8 x)) = .int .u8 x) (w : World) : (execOp a.eval o).run Tryd.prog w = .ok (.value (.agg (numsA .u8 (keyL x)))) w := by
  have hz := zeroK_run
  have hset := zeroK_set
  have hne : zeroK ≠ #[] := by
    intro h
    have h2 := zeroK_size
    rw [h] at h2
    exact absurd h2 (by decide)
  generalize a.eval = ev at hc ⊢
  unfold execOp
  simp only [ho]
  simp [hc, go_sem, hz, hne, hset]
theorem keyL_digs {n : Int} (h : 0 ≤ n ∧ n < 256) : Digs 256 (keyL n) := by
  intro v hv
  simp only [keyL, List.mem_cons, List.mem_replicate] at hv
  rcases hv with rfl | ⟨_, rfl⟩
  · exact h
  · omega
end Go.Proofs.YtdpafemcpbhlfaaDoor
namespace Go.Proofs.YtdpafemcpbhlfaaDoor
set_option maxRecDepth 100000
open Go.RowKit

theorem step_pure {P : Program} {ops : Array Oper} {o : Oper} {a : Act} {w : World} {K : Act → World → Prop} {Q : Exit → Act → World → Prop} {E : Prop} (hgd : o.guard = none) (d : Nat) (hd : o.dst = some d) (v : Value)
    (hrun : (execOp a.eval o).run P w = .ok (.value v) w) (h : K { a with tmps := a.tmps.setIfInBounds d v } w) : if Region.wanted o (yielded ops a.tmps) = true then Oper.wp P o a w K Q else E := by
  have hw : Region.wanted o (yielded ops a.tmps) = true := by simp [Region.wanted, hgd]
  rw [if_pos hw]
  unfold Oper.wp
  rw [hrun, Oper.upon_value, hd]
  exact h
theorem results_cell_tmp {P : Program} {fn : Func} {p u : Tmp} {ty : TypeId} (h : fn.results = #[.cell p ty, .tmp u]) (tmps : Array Value) (w : World) (g : Nat) (t : TypeId) (cs : Array Value) (fr : Nat × Nat) (d : TypeDesc)
    (hp : tmps.getD p undef = .pointer (some ⟨g, 0, none⟩)) (hg : w.heap[g]? = some (.cells cs t fr))
    (hu : P.underlying ty = some d) (hd : (match d with | .struct _ | .array _ _ => true | _ => false) = true) (hi : (P.info? ty).map (·.size) = some cs.size) (v : Value) (hv : tmps.getD u undef = v) :
    (results fn tmps).run P w = .ok (.tuple #[.agg cs, v]) w := by
  have hp' : tmps[p]?.getD undef = .pointer (some ⟨g, 0, none⟩) := by simpa using hp
  have hv' : tmps[u]?.getD undef = v := by simpa using hv
  simp [results, h, hp', hv', asAddr, run_loadVar_row w g t ty cs fr d hg hu hd hi]
theorem run_eqlNum {o : Oper} {a : Act} {p q : Operand} {c d : Int} (ho : o.op = .binOp .eql 45 p q 45) (hp : a.eval p = .agg (numN c)) (hq : a.eval q = .agg (numN d)) (hc : 0 ≤ c ∧ c < 115792089237316195423570985008687907853269984665640564039457584007913129639936) (hd : 0 ≤ d ∧ d < 115792089237316195423570985008687907853269984665640564039457584007913129639936) (w : World) :
    (execOp a.eval o).run Tryd.prog w = .ok (.value (.bool (decide (c = d)))) w := by
  have he := eqNum c d
  have hg := guardNum
  rw [numN_inj hc hd] at he
  generalize a.eval = ev at hp hq ⊢
  generalize decide (c = d) = b at *
  unfold execOp
  simp only [ho]
  simp [hp, hq, go_sem, he, hg]
theorem run_buildN {o : Oper} {a : Act} (ho : o.op = .build 45 #[]) (w : World) : (execOp a.eval o).run Tryd.prog w = .ok (.value (.agg (numN 0))) w := by
  have hz := zeroN_run0
  generalize a.eval = ev
  unfold execOp
  simp only [ho]
  simp [go_sem, hz]
theorem okMod_bd (n : Int) : 0 ≤ n % pp ∧ n % pp < 115792089237316195423570985008687907853269984665640564039457584007913129639936 := ⟨(okMod n).1, (okMod n).2.1⟩
end Go.Proofs.YtdpafemcpbhlfaaDoor
