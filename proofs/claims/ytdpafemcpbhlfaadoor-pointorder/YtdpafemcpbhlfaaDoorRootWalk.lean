/-
  The walks of even, rootOfMinusOne, candidate, Root.
-/
import Derived.Test.YtdpafemcpbhlfaaDoorRootMath
import Derived.Test.YtdpafemcpbhlfaaDoorLate
import Derived.Test.YtdpafemcpbhlfaaDoorSub
namespace Go.Proofs.YtdpafemcpbhlfaaDoor
set_option maxRecDepth 100000
open Go.RowKit

theorem enterMul (vs : Array Value) (w : World) : (callFunc 44 vs).run Tryd.prog w = .ok (.enter 44 vs) w := run_enter Tryd.func44 (by kernel_rfl) (by kernel_rfl) vs w
theorem enterProduct (vs : Array Value) (w : World) : (callFunc 101 vs).run Tryd.prog w = .ok (.enter 101 vs) w := run_enter Tryd.func101 (by kernel_rfl) (by kernel_rfl) vs w
theorem enterNeg (vs : Array Value) (w : World) : (callFunc 63 vs).run Tryd.prog w = .ok (.enter 63 vs) w := run_enter Tryd.func63 (by kernel_rfl) (by kernel_rfl) vs w
theorem enterEqual (vs : Array Value) (w : World) : (callFunc 71 vs).run Tryd.prog w = .ok (.enter 71 vs) w := run_enter Tryd.func71 (by kernel_rfl) (by kernel_rfl) vs w
theorem entereven (vs : Array Value) (w : World) : (callFunc 102 vs).run Tryd.prog w = .ok (.enter 102 vs) w := run_enter Tryd.func102 (by kernel_rfl) (by kernel_rfl) vs w
theorem enterrootOfMinusOne (vs : Array Value) (w : World) : (callFunc 103 vs).run Tryd.prog w = .ok (.enter 103 vs) w := run_enter Tryd.func103 (by kernel_rfl) (by kernel_rfl) vs w
set_option maxHeartbeats 2000000 in
theorem even_any (x0 x1 x2 x3 x4 z : Int) (w : World) (hT : Tw w) (hx : Fits x0 x1 x2 x3 x4 z) : Calls Tryd.prog 102 #[.agg #[.int .u64 x0, .int .u64 x1, .int .u64 x2, .int .u64 x3, .int .u64 x4]] w (RetE (evenV z) w) := by
  have HX := Lib.hid hx
  have HT := Lib.hid hT
  clear hx hT
  have Hb0 := Lib.hid ((Blk.at1 w #[.int .u64 x0, .int .u64 x1, .int .u64 x2, .int .u64 x3, .int .u64 x4] 39).alloc (.cells #[.int .u64 0, .int .u64 0, .int .u64 0, .int .u64 0, .int .u64 0] 39))
  have Hb1 := Lib.hid (Blk.at2 w (.cells #[.int .u64 x0, .int .u64 x1, .int .u64 x2, .int .u64 x3, .int .u64 x4] 39) #[.int .u64 0, .int .u64 0, .int .u64 0, .int .u64 0, .int .u64 0] 39)
  have Hu0 := Lib.hid (((Upd.refl (fun _ => False) w).alloc (.cells #[.int .u64 x0, .int .u64 x1, .int .u64 x2, .int .u64 x3, .int .u64 x4] 39)).alloc (.cells #[.int .u64 0, .int .u64 0, .int .u64 0, .int .u64 0, .int .u64 0] 39))
  go_enter Tryd.func102, Tryd.ntmps102
  go_wp2_with fail
  refine (odd_any x0 x1 x2 x3 x4 z _ HX.out).mono ?_
  rintro e w1 ⟨he, hu⟩
  have Hb0' := Lib.hid (hu.blk Hb0.out (fun h => h))
  have Hb1' := Lib.hid (hu.blk Hb1.out (fun h => h))
  have Hu1 := Lib.hid (Hu0.out.trans hu)
  clear hu Hb0 Hb1 Hu0
  obtain ⟨c0, c1, c2, c3, c4⟩ := cells5p Hb0'.out
  by_cases ho : z % pp % 2 = 1
  · rw [decide_eq_true ho] at he
    subst he
    have Hev : Hid (evenV z = -z) := by show _ = _; unfold evenV; rw [if_pos ho]
    clear ho
    go_wp2_with fail
    refine (neg_any x0 x1 x2 x3 x4 z _ (HT.out.upd Hu1.out) HX.out).mono ?_
    rintro e w2 ⟨z0, z1, z2, z3, z4, hF, rfl, hu⟩
    have Hb1n := Lib.hid (hu.blk Hb1'.out (fun h => h))
    have Hu2 := Lib.hid (Hu1.out.trans hu)
    have HF := Lib.hid hF
    clear hu hF c0 c1 c2 c3 c4
    go_wp2_with (refine wpList_storeBlk2 rfl 39 _ _ rfl (w.heap.size + 1) 0 5 rfl #[.int .u64 z0, .int .u64 z1, .int .u64 z2, .int .u64 z3, .int .u64 z4] rfl 39 _ Hb1n.out info28 rfl (by simp) (one5 _ _ _ _ _) ?_; intro wz hbz huz hzz; rw [splice_all _ _ 5 rfl rfl] at hbz)
    exact bodyPost_ret (v := .agg #[.int .u64 z0, .int .u64 z1, .int .u64 z2, .int .u64 z3, .int .u64 z4]) (results_cell_row (fn := Tryd.f102) (p := 2) (ty := 39) rfl _ _ (w.heap.size + 1) 39 _ (0, 0) _ rfl hbz Tryd.underlying39 rfl info28) rfl ⟨_, _, _, _, _, by rw [Hev.out]; exact HF.out, rfl, Hu2.out.step huz (fun i hi h => by omega)⟩
  · rw [decide_eq_false ho] at he
    subst he
    have Hev : Hid (evenV z = z) := by show _ = _; unfold evenV; rw [if_neg ho]
    clear ho
    go_wp2_with (refine wpList_storeBlk2 rfl 39 _ _ rfl (w.heap.size + 1) 0 5 rfl #[.int .u64 x0, .int .u64 x1, .int .u64 x2, .int .u64 x3, .int .u64 x4] rfl 39 _ Hb1'.out info28 rfl (by simp) (one5 _ _ _ _ _) ?_; intro wz hbz huz hzz; rw [splice_all _ _ 5 rfl rfl] at hbz)
    exact bodyPost_ret (v := .agg #[.int .u64 x0, .int .u64 x1, .int .u64 x2, .int .u64 x3, .int .u64 x4]) (results_cell_row (fn := Tryd.f102) (p := 2) (ty := 39) rfl _ _ (w.heap.size + 1) 39 _ (0, 0) _ rfl hbz Tryd.underlying39 rfl info28) rfl ⟨_, _, _, _, _, by rw [Hev.out]; exact HX.out, rfl, Hu1.out.step huz (fun i hi h => by omega)⟩
set_option maxHeartbeats 2000000 in
theorem rootOfMinusOne_any (w : World) : Calls Tryd.prog 103 #[] w (RetE iV w) := by
  have Hb0 := Lib.hid (Blk.at1 w #[.int .u64 0, .int .u64 0, .int .u64 0, .int .u64 0, .int .u64 0] 39)
  have Hu0 := Lib.hid ((Upd.refl (fun _ => False) w).alloc (.cells #[.int .u64 0, .int .u64 0, .int .u64 0, .int .u64 0, .int .u64 0] 39))
  go_enter Tryd.func103, Tryd.ntmps103
  go_wp2_with fail
  refine (small_any 2 _ (by omega) (by omega)).mono ?_
  rintro e w1 ⟨t0, t1, t2, t3, t4, hF, rfl, hu⟩
  have HF := Lib.hid hF
  have Hb1 := Lib.hid (hu.blk Hb0.out (fun h => h))
  have Hu1 := Lib.hid (Hu0.out.trans hu)
  clear hu hF Hb0 Hu0
  go_wp2_with fail
  refine (filled_any 251 31 _).mono ?_
  rintro e w2 ⟨rfl, hu⟩
  have Hb2 := Lib.hid (hu.blk Hb1.out (fun h => h))
  have Hu2 := Lib.hid (Hu1.out.trans hu)
  clear hu Hb1 Hu1
  go_wp2_with fail
  refine (power_any t0 t1 t2 t3 t4 2 (fillL 251 31) _ HF.out (fillL_length _ _) (fillL_digs (by omega) (by omega))).mono ?_
  rintro e w3 ⟨z0, z1, z2, z3, z4, hG, rfl, hu⟩
  have HG := Lib.hid hG
  have Hb3 := Lib.hid (hu.blk Hb2.out (fun h => h))
  have Hu3 := Lib.hid (Hu2.out.trans hu)
  clear hu hG Hb2 Hu2
  go_wp2_with (refine wpList_storeBlk2 rfl 39 _ _ rfl (w.heap.size) 0 5 rfl #[.int .u64 z0, .int .u64 z1, .int .u64 z2, .int .u64 z3, .int .u64 z4] rfl 39 _ Hb3.out info28 rfl (by simp) (one5 _ _ _ _ _) ?_; intro wz hbz huz hzz; rw [splice_all _ _ 5 rfl rfl] at hbz)
  exact bodyPost_ret (v := .agg #[.int .u64 z0, .int .u64 z1, .int .u64 z2, .int .u64 z3, .int .u64 z4]) (results_cell_row (fn := Tryd.f103) (p := 0) (ty := 39) rfl _ _ w.heap.size 39 _ (0, 0) _ rfl hbz Tryd.underlying39 rfl info28) rfl ⟨_, _, _, _, _, HG.out, rfl, Hu3.out.step huz (fun i hi h => by omega)⟩
set_option maxRecDepth 100000 in
set_option maxHeartbeats 4000000 in
theorem candidate_any (u0 u1 u2 u3 u4 v0 v1 v2 v3 v4 m n : Int) (w : World) (hu : Fits u0 u1 u2 u3 u4 m) (hv : Fits v0 v1 v2 v3 v4 n) : Calls Tryd.prog 100 #[.agg #[.int .u64 u0, .int .u64 u1, .int .u64 u2, .int .u64 u3, .int .u64 u4], .agg #[.int .u64 v0, .int .u64 v1, .int .u64 v2, .int .u64 v3, .int .u64 v4]] w (RetE (candV m n) w) := by
  have HU := Lib.hid hu
  have HV := Lib.hid hv
  clear hu hv
  have Hb0 := Lib.hid (((Blk.at1 w #[.int .u64 u0, .int .u64 u1, .int .u64 u2, .int .u64 u3, .int .u64 u4] 39).alloc (.cells #[.int .u64 v0, .int .u64 v1, .int .u64 v2, .int .u64 v3, .int .u64 v4] 39)).alloc (.cells #[.int .u64 0, .int .u64 0, .int .u64 0, .int .u64 0, .int .u64 0] 39))
  have Hb1 := Lib.hid ((Blk.at2 w (.cells #[.int .u64 u0, .int .u64 u1, .int .u64 u2, .int .u64 u3, .int .u64 u4] 39) #[.int .u64 v0, .int .u64 v1, .int .u64 v2, .int .u64 v3, .int .u64 v4] 39).alloc (.cells #[.int .u64 0, .int .u64 0, .int .u64 0, .int .u64 0, .int .u64 0] 39))
  have Hb2 := Lib.hid (Blk.at3 w (.cells #[.int .u64 u0, .int .u64 u1, .int .u64 u2, .int .u64 u3, .int .u64 u4] 39) (.cells #[.int .u64 v0, .int .u64 v1, .int .u64 v2, .int .u64 v3, .int .u64 v4] 39) #[.int .u64 0, .int .u64 0, .int .u64 0, .int .u64 0, .int .u64 0] 39)
  have Hu0 := Lib.hid ((((Upd.refl (fun _ => False) w).alloc (.cells #[.int .u64 u0, .int .u64 u1, .int .u64 u2, .int .u64 u3, .int .u64 u4] 39)).alloc (.cells #[.int .u64 v0, .int .u64 v1, .int .u64 v2, .int .u64 v3, .int .u64 v4] 39)).alloc (.cells #[.int .u64 0, .int .u64 0, .int .u64 0, .int .u64 0, .int .u64 0] 39))
  go_enter Tryd.func100, Tryd.ntmps100
  go_wp2_with fail
  refine (product_any _ _ _ _ (ElsAt.of3 (Blk.at4 w _ _ _ _ _) HV.out HV.out HV.out)).mono ?_
  rintro e w1 ⟨c0, c1, c2, c3, c4, hF, rfl, hu⟩
  have HC : Hid (Fits c0 c1 c2 c3 c4 (n * n * n)) := hF.to (by simp [prodTo]; exact Cong.refl _)
  have Hc0 := Lib.hid ((hu.blk (Hb0.out.alloc _) (fun h => h)).alloc (.cells #[.int .u64 c0, .int .u64 c1, .int .u64 c2, .int .u64 c3, .int .u64 c4] 39))
  have Hc1 := Lib.hid ((hu.blk (Hb1.out.alloc _) (fun h => h)).alloc (.cells #[.int .u64 c0, .int .u64 c1, .int .u64 c2, .int .u64 c3, .int .u64 c4] 39))
  have Hc2 := Lib.hid ((hu.blk (Hb2.out.alloc _) (fun h => h)).alloc (.cells #[.int .u64 c0, .int .u64 c1, .int .u64 c2, .int .u64 c3, .int .u64 c4] 39))
  have Hc3 := Lib.hid (Blk.at1 w1 #[.int .u64 c0, .int .u64 c1, .int .u64 c2, .int .u64 c3, .int .u64 c4] 39)
  have Hu1 := Lib.hid (((Hu0.out.alloc _).trans hu).alloc (.cells #[.int .u64 c0, .int .u64 c1, .int .u64 c2, .int .u64 c3, .int .u64 c4] 39))
  clear hu hF Hb0 Hb1 Hb2 Hu0
  obtain ⟨p0, p1, p2, p3, p4⟩ := cells5p Hc1.out
  have hz1 := Hc3.out.lt
  go_wp2_with fail
  refine (product_any _ _ _ _ (ElsAt.of3 (Blk.at2 w1 _ _ _) HC.out HC.out HV.out)).mono ?_
  rintro e w2 ⟨s0, s1, s2, s3, s4, hF, rfl, hu⟩
  have HS : Hid (Fits s0 s1 s2 s3 s4 (n * n * n * (n * n * n) * n)) := hF.to (by simp [prodTo]; exact Cong.refl _)
  have Hd0 := Lib.hid ((hu.blk (Hc0.out.alloc _) (fun h => h)).alloc (.cells #[.int .u64 s0, .int .u64 s1, .int .u64 s2, .int .u64 s3, .int .u64 s4] 39))
  have Hd2 := Lib.hid ((hu.blk (Hc2.out.alloc _) (fun h => h)).alloc (.cells #[.int .u64 s0, .int .u64 s1, .int .u64 s2, .int .u64 s3, .int .u64 s4] 39))
  have Hd3 := Lib.hid ((hu.blk (Hc3.out.alloc _) (fun h => h)).alloc (.cells #[.int .u64 s0, .int .u64 s1, .int .u64 s2, .int .u64 s3, .int .u64 s4] 39))
  have Hd4 := Lib.hid (Blk.at1 w2 #[.int .u64 s0, .int .u64 s1, .int .u64 s2, .int .u64 s3, .int .u64 s4] 39)
  have Hu2 := Lib.hid (((Hu1.out.alloc _).trans hu).alloc (.cells #[.int .u64 s0, .int .u64 s1, .int .u64 s2, .int .u64 s3, .int .u64 s4] 39))
  clear hu hF Hc0 Hc1 Hc2 Hc3 Hu1 p0 p1 p2 p3 p4
  generalize w1.heap.size = b5 at *
  go_wp2
  refine wp_region_slots #[true, true, true, true, true, true, true, true, true, false] ([.val (.agg #[.int .u64 u0, .int .u64 u1, .int .u64 u2, .int .u64 u3, .int .u64 u4]), .val (.agg #[.int .u64 c0, .int .u64 c1, .int .u64 c2, .int .u64 c3, .int .u64 c4]), .val (.agg #[.int .u64 u0, .int .u64 u1, .int .u64 u2, .int .u64 u3, .int .u64 u4]), .val (.agg #[.int .u64 s0, .int .u64 s1, .int .u64 s2, .int .u64 s3, .int .u64 s4]), .elem (m * (n * n * n * (n * n * n) * n)), .val (.agg (numsA .u8 (fillL 253 15))), .elem ((m * (n * n * n * (n * n * n) * n)) ^ expo (fillL 253 15)), .list [m, n * n * n, (m * (n * n * n * (n * n * n) * n)) ^ expo (fillL 253 15)], .elem (prodTo [m, n * n * n, (m * (n * n * n * (n * n * n) * n)) ^ expo (fillL 253 15)] [m, n * n * n, (m * (n * n * n * (n * n * n) * n)) ^ expo (fillL 253 15)].length)] : List SP) (by kernel_rfl) (by kernel_rfl) (by kernel_rfl) ?_ ?_
  · intro i o listed an wn ho hls hst hun hdep hI K' hK'
    have hi : i < 9 := by
      rcases Nat.lt_or_ge i 9 with h | h
      · exact h
      · exfalso
        have hq : i = 9 ∨ 10 ≤ i := by omega
        rcases hq with rfl | h2
        · cases hst
        · have := idx_lt ho; simp at this; omega
    have hcase : i = 0 ∨ i = 1 ∨ i = 2 ∨ i = 3 ∨ i = 4 ∨ i = 5 ∨ i = 6 ∨ i = 7 ∨ i = 8 := by omega
    rcases hcase with rfl | rfl | rfl | rfl | rfl | rfl | rfl | rfl | rfl
    · obtain rfl := Option.some.inj ho
      exact hI.stepLoad (by kernel_rfl) hls rfl rfl rfl 39 2 rfl (by kernel_rfl) (w.heap.size) 5 rfl 39 (#[.int .u64 u0, .int .u64 u1, .int .u64 u2, .int .u64 u3, .int .u64 u4]) Hd0.out _ Tryd.underlying39 rfl info28 rfl rfl rfl hK'
    · obtain rfl := Option.some.inj ho
      exact hI.stepLoad (by kernel_rfl) hls rfl rfl rfl 39 5 rfl (by kernel_rfl) (b5) 5 rfl 39 (#[.int .u64 c0, .int .u64 c1, .int .u64 c2, .int .u64 c3, .int .u64 c4]) Hd3.out _ Tryd.underlying39 rfl info28 rfl rfl rfl hK'
    · obtain rfl := Option.some.inj ho
      exact hI.stepLoad (by kernel_rfl) hls rfl rfl rfl 39 2 rfl (by kernel_rfl) (w.heap.size) 5 rfl 39 (#[.int .u64 u0, .int .u64 u1, .int .u64 u2, .int .u64 u3, .int .u64 u4]) Hd0.out _ Tryd.underlying39 rfl info28 rfl rfl rfl hK'
    · obtain rfl := Option.some.inj ho
      exact hI.stepLoad (by kernel_rfl) hls rfl rfl rfl 39 6 rfl (by kernel_rfl) (w2.heap.size) 5 rfl 39 (#[.int .u64 s0, .int .u64 s1, .int .u64 s2, .int .u64 s3, .int .u64 s4]) Hd4.out _ Tryd.underlying39 rfl info28 rfl rfl rfl hK'
    · obtain rfl := Option.some.inj ho
      obtain ⟨vp, hvp, hsp⟩ := hI.have 2 _ 19 (.val (.agg #[.int .u64 u0, .int .u64 u1, .int .u64 u2, .int .u64 u3, .int .u64 u4])) rfl rfl rfl (hdep ⟨2, .data⟩ (by simp) rfl)
      obtain rfl := hsp
      obtain ⟨vq, hvq, hsq⟩ := hI.have 3 _ 20 (.val (.agg #[.int .u64 s0, .int .u64 s1, .int .u64 s2, .int .u64 s3, .int .u64 s4])) rfl rfl rfl (hdep ⟨3, .data⟩ (by simp) rfl)
      obtain rfl := hsq
      exact hI.stepCall (by kernel_rfl) hls rfl rfl rfl 44 #[.tmp 19, .tmp 20] _ rfl #[.agg #[.int .u64 u0, .int .u64 u1, .int .u64 u2, .int .u64 u3, .int .u64 u4], .agg #[.int .u64 s0, .int .u64 s1, .int .u64 s2, .int .u64 s3, .int .u64 s4]] (by simp [eval_of hvp, eval_of hvq]) enterMul (.elem (m * (n * n * n * (n * n * n) * n))) rfl rfl ((mul_any u0 u1 u2 u3 u4 s0 s1 s2 s3 s4 m (n * n * n * (n * n * n) * n) _ HU.out HS.out).mono fun _ _ h => h.sp) hK'
    · obtain rfl := Option.some.inj ho
      exact hI.stepCall (by kernel_rfl) hls rfl rfl rfl 82 #[.const (.int .u8 253), .const (.int .u8 15)] _ rfl #[.int .u8 253, .int .u8 15] (by simp [Act.eval]) enterfilled (.val (.agg (numsA .u8 (fillL 253 15)))) rfl rfl ((filled_any 253 15 _).mono fun _ _ h => ⟨_, h.1, rfl, h.2⟩) hK'
    · obtain rfl := Option.some.inj ho
      obtain ⟨vp, hvp, p0, p1, p2, p3, p4, rfl, hFp⟩ := hI.have 4 _ 21 (.elem (m * (n * n * n * (n * n * n) * n))) rfl rfl rfl (hdep ⟨4, .data⟩ (by simp) rfl)
      obtain ⟨vq, hvq, hsq⟩ := hI.have 5 _ 22 (.val (.agg (numsA .u8 (fillL 253 15)))) rfl rfl rfl (hdep ⟨5, .data⟩ (by simp) rfl)
      obtain rfl := hsq
      exact hI.stepCall (by kernel_rfl) hls rfl rfl rfl 81 #[.tmp 21, .tmp 22] _ rfl #[.agg #[.int .u64 p0, .int .u64 p1, .int .u64 p2, .int .u64 p3, .int .u64 p4], .agg (numsA .u8 (fillL 253 15))] (by simp [eval_of hvp, eval_of hvq]) enterPower' (.elem ((m * (n * n * n * (n * n * n) * n)) ^ expo (fillL 253 15))) rfl rfl ((power_any p0 p1 p2 p3 p4 (m * (n * n * n * (n * n * n) * n)) (fillL 253 15) _ hFp (fillL_length _ _) (fillL_digs (by omega) (by omega))).mono fun _ _ h => h.sp) hK'
    · obtain rfl := Option.some.inj ho
      obtain ⟨vp, hvp, hsp⟩ := hI.have 0 _ 17 (.val (.agg #[.int .u64 u0, .int .u64 u1, .int .u64 u2, .int .u64 u3, .int .u64 u4])) rfl rfl rfl (hdep ⟨0, .data⟩ (by simp) rfl)
      obtain rfl := hsp
      obtain ⟨vq, hvq, hsq⟩ := hI.have 1 _ 18 (.val (.agg #[.int .u64 c0, .int .u64 c1, .int .u64 c2, .int .u64 c3, .int .u64 c4])) rfl rfl rfl (hdep ⟨1, .data⟩ (by simp) rfl)
      obtain rfl := hsq
      obtain ⟨vr, hvr, r0, r1, r2, r3, r4, rfl, hFr⟩ := hI.have 6 _ 23 (.elem ((m * (n * n * n * (n * n * n) * n)) ^ expo (fillL 253 15))) rfl rfl rfl (hdep ⟨6, .data⟩ (by simp) rfl)
      exact hI.stepList (by kernel_rfl) hls rfl rfl rfl _ _ [m, n * n * n, (m * (n * n * n * (n * n * n) * n)) ^ expo (fillL 253 15)] _ (run_list3 rfl (eval_of hvp) (eval_of hvq) (eval_of hvr) wn) (ElsAt.mk3 wn u0 u1 u2 u3 u4 c0 c1 c2 c3 c4 r0 r1 r2 r3 r4 m (n * n * n) ((m * (n * n * n * (n * n * n) * n)) ^ expo (fillL 253 15)) HU.out HC.out hFr) rfl rfl hK'
    · obtain rfl := Option.some.inj ho
      obtain ⟨vp, hvp, lp, hLp⟩ := hI.have 7 _ 24 (.list [m, n * n * n, (m * (n * n * n * (n * n * n) * n)) ^ expo (fillL 253 15)]) rfl rfl rfl (hdep ⟨7, .data⟩ (by simp) rfl)
      exact hI.stepCall (by kernel_rfl) hls rfl rfl rfl 101 #[.tmp 24] _ rfl #[vp] (by simp [eval_of hvp]) enterProduct (.elem (prodTo [m, n * n * n, (m * (n * n * n * (n * n * n) * n)) ^ expo (fillL 253 15)] [m, n * n * n, (m * (n * n * n * (n * n * n) * n)) ^ expo (fillL 253 15)].length)) rfl rfl ((product_any _ _ _ _ hLp).mono fun _ _ h => h.sp) hK'
  · intro fuel an wn hf hI
    obtain ⟨v0, hv0, hs0⟩ := hI.have 0 _ 17 (.val (.agg #[.int .u64 u0, .int .u64 u1, .int .u64 u2, .int .u64 u3, .int .u64 u4])) rfl rfl rfl rfl
    obtain rfl := hs0
    obtain ⟨v1, hv1, hs1⟩ := hI.have 1 _ 18 (.val (.agg #[.int .u64 c0, .int .u64 c1, .int .u64 c2, .int .u64 c3, .int .u64 c4])) rfl rfl rfl rfl
    obtain rfl := hs1
    obtain ⟨v2, hv2, hs2⟩ := hI.have 2 _ 19 (.val (.agg #[.int .u64 u0, .int .u64 u1, .int .u64 u2, .int .u64 u3, .int .u64 u4])) rfl rfl rfl rfl
    obtain rfl := hs2
    obtain ⟨v3, hv3, hs3⟩ := hI.have 3 _ 20 (.val (.agg #[.int .u64 s0, .int .u64 s1, .int .u64 s2, .int .u64 s3, .int .u64 s4])) rfl rfl rfl rfl
    obtain rfl := hs3
    obtain ⟨v4, hv4, e4_0, e4_1, e4_2, e4_3, e4_4, rfl, hF4⟩ := hI.have 4 _ 21 (.elem (m * (n * n * n * (n * n * n) * n))) rfl rfl rfl rfl
    obtain ⟨v5, hv5, hs5⟩ := hI.have 5 _ 22 (.val (.agg (numsA .u8 (fillL 253 15)))) rfl rfl rfl rfl
    obtain rfl := hs5
    obtain ⟨v6, hv6, e6_0, e6_1, e6_2, e6_3, e6_4, rfl, hF6⟩ := hI.have 6 _ 23 (.elem ((m * (n * n * n * (n * n * n) * n)) ^ expo (fillL 253 15))) rfl rfl rfl rfl
    obtain ⟨v7, hv7, -⟩ := hI.have 7 _ 24 (.list [m, n * n * n, (m * (n * n * n * (n * n * n) * n)) ^ expo (fillL 253 15)]) rfl rfl rfl rfl
    obtain ⟨v8, hv8, e8_0, e8_1, e8_2, e8_3, e8_4, rfl, hF8⟩ := hI.have 8 _ 25 (.elem (prodTo [m, n * n * n, (m * (n * n * n * (n * n * n) * n)) ^ expo (fillL 253 15)] [m, n * n * n, (m * (n * n * n * (n * n * n) * n)) ^ expo (fillL 253 15)].length)) rfl rfl rfl rfl
    have hupd := hI.upd
    have ha := hI.act [(17, .agg #[.int .u64 u0, .int .u64 u1, .int .u64 u2, .int .u64 u3, .int .u64 u4]), (18, .agg #[.int .u64 c0, .int .u64 c1, .int .u64 c2, .int .u64 c3, .int .u64 c4]), (19, .agg #[.int .u64 u0, .int .u64 u1, .int .u64 u2, .int .u64 u3, .int .u64 u4]), (20, .agg #[.int .u64 s0, .int .u64 s1, .int .u64 s2, .int .u64 s3, .int .u64 s4]), (21, .agg #[.int .u64 e4_0, .int .u64 e4_1, .int .u64 e4_2, .int .u64 e4_3, .int .u64 e4_4]), (22, .agg (numsA .u8 (fillL 253 15))), (23, .agg #[.int .u64 e6_0, .int .u64 e6_1, .int .u64 e6_2, .int .u64 e6_3, .int .u64 e6_4]), (24, v7), (25, .agg #[.int .u64 e8_0, .int .u64 e8_1, .int .u64 e8_2, .int .u64 e8_3, .int .u64 e8_4])] (by simp [hv0, hv1, hv2, hv3, hv4, hv5, hv6, hv7, hv8]) (by kernel_rfl)
    clear hI hv0 hv1 hv2 hv3 hv4 hv5 hv6 hv7 hv8
    subst ha
    simp only [List.foldl_cons, List.foldl_nil, List.setIfInBounds_toArray, List.set_cons_zero, List.set_cons_succ]
    have hf0 : left #[true, true, true, true, true, true, true, true, true, false] 10 = 1 := by kernel_rfl
    have hf1 : left #[true, true, true, true, true, true, true, true, true, false] 10 ≤ fuel := hf
    obtain ⟨fu, rfl⟩ : ∃ fu, fuel = fu + 1 := ⟨fuel - 1, by omega⟩
    clear hf hf0 hf1
    refine wpAny_ready (rs := [9]) (by kernel_rfl) (by simp) (AllReady.cons rfl (fun K hK => ?_) AllReady.nil)
    refine step_storeBlk2 rfl 39 (.tmp 4) (.tmp 25) rfl (w.heap.size + 1 + 1) 0 5 rfl (#[.int .u64 e8_0, .int .u64 e8_1, .int .u64 e8_2, .int .u64 e8_3, .int .u64 e8_4]) rfl 39 (#[.int .u64 0, .int .u64 0, .int .u64 0, .int .u64 0, .int .u64 0]) (hupd.blk (show Blk _ _ _ _ from Hd2.out) (fun h => h)) info28 rfl (by simp) (one5 _ _ _ _ _) ?_
    intro ws0 hs0 hus0 _
    rw [splice_all _ _ 5 rfl rfl] at hs0
    refine hK _ _ ?_
    clear hK K
    dsimp only [Act.put]
    refine wpAny_done (by kernel_rfl) ?_ _
    have HFr : Fits e8_0 e8_1 e8_2 e8_3 e8_4 (candV m n) := hF8.to (by simp [prodTo, candV]; exact Cong.refl _)
    go_wp2
    exact bodyPost_ret (v := .agg #[.int .u64 e8_0, .int .u64 e8_1, .int .u64 e8_2, .int .u64 e8_3, .int .u64 e8_4]) (results_cell_row (fn := Tryd.f100) (p := 4) (ty := 39) rfl _ _ (w.heap.size + 1 + 1) 39 _ (0, 0) _ rfl hs0 Tryd.underlying39 rfl info28) rfl ⟨_, _, _, _, _, HFr, rfl, (Hu2.out.drew.trans hupd).step hus0 (fun i hi h => by omega)⟩
/-- Root's answer. -/
def RetRoot (m n : Int) (w : World) (e : Ending) (w' : World) : Prop :=
  ∃ r0 r1 r2 r3 r4 : Int, Fits r0 r1 r2 r3 r4 (rootV m n) ∧ e = .returned (.tuple #[.agg #[.int .u64 r0, .int .u64 r1, .int .u64 r2, .int .u64 r3, .int .u64 r4], .bool (rootB m n)]) ∧ Upd (fun _ => False) w w'
set_option maxRecDepth 100000 in
set_option maxHeartbeats 8000000 in
theorem root_any (u0 u1 u2 u3 u4 v0 v1 v2 v3 v4 m n : Int) (w : World) (hT : Tw w) (hu : Fits u0 u1 u2 u3 u4 m) (hv : Fits v0 v1 v2 v3 v4 n) : Calls Tryd.prog 93 #[.agg #[.int .u64 u0, .int .u64 u1, .int .u64 u2, .int .u64 u3, .int .u64 u4], .agg #[.int .u64 v0, .int .u64 v1, .int .u64 v2, .int .u64 v3, .int .u64 v4]] w (RetRoot m n w) := by
  have HU := Lib.hid hu
  have HV := Lib.hid hv
  have HT := Lib.hid hT
  clear hu hv hT
  have Hb0 := Lib.hid (((Blk.at1 w #[.int .u64 u0, .int .u64 u1, .int .u64 u2, .int .u64 u3, .int .u64 u4] 39).alloc (.cells #[.int .u64 v0, .int .u64 v1, .int .u64 v2, .int .u64 v3, .int .u64 v4] 39)).alloc (.cells #[.int .u64 0, .int .u64 0, .int .u64 0, .int .u64 0, .int .u64 0] 39))
  have Hb1 := Lib.hid ((Blk.at2 w (.cells #[.int .u64 u0, .int .u64 u1, .int .u64 u2, .int .u64 u3, .int .u64 u4] 39) #[.int .u64 v0, .int .u64 v1, .int .u64 v2, .int .u64 v3, .int .u64 v4] 39).alloc (.cells #[.int .u64 0, .int .u64 0, .int .u64 0, .int .u64 0, .int .u64 0] 39))
  have Hb2 := Lib.hid (Blk.at3 w (.cells #[.int .u64 u0, .int .u64 u1, .int .u64 u2, .int .u64 u3, .int .u64 u4] 39) (.cells #[.int .u64 v0, .int .u64 v1, .int .u64 v2, .int .u64 v3, .int .u64 v4] 39) #[.int .u64 0, .int .u64 0, .int .u64 0, .int .u64 0, .int .u64 0] 39)
  have Hu0 := Lib.hid ((((Upd.refl (fun _ => False) w).alloc (.cells #[.int .u64 u0, .int .u64 u1, .int .u64 u2, .int .u64 u3, .int .u64 u4] 39)).alloc (.cells #[.int .u64 v0, .int .u64 v1, .int .u64 v2, .int .u64 v3, .int .u64 v4] 39)).alloc (.cells #[.int .u64 0, .int .u64 0, .int .u64 0, .int .u64 0, .int .u64 0] 39))
  go_enter Tryd.func93, Tryd.ntmps93
  go_wp2_with fail
  refine (candidate_any u0 u1 u2 u3 u4 v0 v1 v2 v3 v4 m n _ HU.out HV.out).mono ?_
  rintro e w1 ⟨c0, c1, c2, c3, c4, hF, rfl, hu⟩
  have HC := Lib.hid hF
  have Hc0 := Lib.hid ((hu.blk Hb0.out (fun h => h)).alloc (.cells #[.int .u64 c0, .int .u64 c1, .int .u64 c2, .int .u64 c3, .int .u64 c4] 39))
  have Hc1 := Lib.hid ((hu.blk Hb1.out (fun h => h)).alloc (.cells #[.int .u64 c0, .int .u64 c1, .int .u64 c2, .int .u64 c3, .int .u64 c4] 39))
  have Hc2 := Lib.hid ((hu.blk Hb2.out (fun h => h)).alloc (.cells #[.int .u64 c0, .int .u64 c1, .int .u64 c2, .int .u64 c3, .int .u64 c4] 39))
  have Hc3 := Lib.hid (Blk.at1 w1 #[.int .u64 c0, .int .u64 c1, .int .u64 c2, .int .u64 c3, .int .u64 c4] 39)
  have Hu1 := Lib.hid ((Hu0.out.trans hu).alloc (.cells #[.int .u64 c0, .int .u64 c1, .int .u64 c2, .int .u64 c3, .int .u64 c4] 39))
  clear hu hF Hb0 Hb1 Hb2 Hu0
  obtain ⟨p0, p1, p2, p3, p4⟩ := cells5p Hc1.out
  go_wp2_with fail
  refine (product_any _ _ _ _ (ElsAt.of3 (Blk.at2 w1 _ _ _) HV.out HC.out HC.out)).mono ?_
  rintro e w2 ⟨s0, s1, s2, s3, s4, hF, rfl, hu⟩
  have HS : Hid (Fits s0 s1 s2 s3 s4 (sqV m n)) := hF.to (by simp [prodTo, sqV]; exact Cong.refl _)
  have Hd0 := Lib.hid ((hu.blk (Hc0.out.alloc _) (fun h => h)).alloc (.cells #[.int .u64 s0, .int .u64 s1, .int .u64 s2, .int .u64 s3, .int .u64 s4] 39))
  have Hd2 := Lib.hid ((hu.blk (Hc2.out.alloc _) (fun h => h)).alloc (.cells #[.int .u64 s0, .int .u64 s1, .int .u64 s2, .int .u64 s3, .int .u64 s4] 39))
  have Hd3 := Lib.hid ((hu.blk (Hc3.out.alloc _) (fun h => h)).alloc (.cells #[.int .u64 s0, .int .u64 s1, .int .u64 s2, .int .u64 s3, .int .u64 s4] 39))
  have Hd4 := Lib.hid (Blk.at1 w2 #[.int .u64 s0, .int .u64 s1, .int .u64 s2, .int .u64 s3, .int .u64 s4] 39)
  have Hu2 := Lib.hid (((Hu1.out.alloc _).trans hu).alloc (.cells #[.int .u64 s0, .int .u64 s1, .int .u64 s2, .int .u64 s3, .int .u64 s4] 39))
  clear hu hF Hc0 Hc1 Hc2 Hc3 Hu1 p0 p1 p2 p3 p4
  generalize w1.heap.size = bX at *
  obtain ⟨p0, p1, p2, p3, p4⟩ := cells5p Hd0.out
  go_wp2_with fail
  refine (equal_any s0 s1 s2 s3 s4 u0 u1 u2 u3 u4 (sqV m n) m _ HS.out HU.out).mono ?_
  rintro e w3 ⟨he, hu⟩
  have Hx0 := Lib.hid (hu.blk Hd0.out (fun h => h))
  have Hx2 := Lib.hid (hu.blk Hd2.out (fun h => h))
  have Hx3 := Lib.hid (hu.blk Hd3.out (fun h => h))
  have Hx4 := Lib.hid (hu.blk Hd4.out (fun h => h))
  have Hu3 := Lib.hid (Hu2.out.trans hu)
  clear hu Hd0 Hd2 Hd3 Hd4 Hu2 p0 p1 p2 p3 p4
  generalize w2.heap.size = bS at *
  by_cases h1 : sqV m n % pp = m % pp
  · rw [decide_eq_true h1] at he
    subst he
    have Hrv : Hid (rootV m n = evenV (candV m n)) := by show _ = _; unfold rootV; rw [if_pos h1]
    have Hrb : Hid (rootB m n = true) := by show _ = _; unfold rootB; rw [decide_eq_true h1, Bool.true_or]
    clear h1
    obtain ⟨p0, p1, p2, p3, p4⟩ := cells5p Hx3.out
    go_wp2_with fail
    refine (even_any c0 c1 c2 c3 c4 (candV m n) _ (HT.out.upd Hu3.out) HC.out).mono ?_
    rintro e w4 ⟨z0, z1, z2, z3, z4, hF, rfl, hu⟩
    have HF := Lib.hid hF
    have Hy2 := Lib.hid (hu.blk Hx2.out (fun h => h))
    have Hu4 := Lib.hid (Hu3.out.trans hu)
    clear hu hF p0 p1 p2 p3 p4
    go_wp2_with (refine wpList_storeBlk2 rfl 39 _ _ rfl (w.heap.size + 1 + 1) 0 5 rfl #[.int .u64 z0, .int .u64 z1, .int .u64 z2, .int .u64 z3, .int .u64 z4] rfl 39 _ Hy2.out info28 rfl (by simp) (one5 _ _ _ _ _) ?_; intro wz hbz huz hzz; rw [splice_all _ _ 5 rfl rfl] at hbz)
    exact bodyPost_ret (v := .tuple #[.agg #[.int .u64 z0, .int .u64 z1, .int .u64 z2, .int .u64 z3, .int .u64 z4], .bool true]) (results_cell_tmp (fn := Tryd.f93) (p := 4) (u := 5) (ty := 39) rfl _ _ (w.heap.size + 1 + 1) 39 _ (0, 0) _ rfl hbz Tryd.underlying39 rfl info28 (.bool true) rfl) rfl ⟨_, _, _, _, _, by rw [Hrv.out]; exact HF.out, by rw [Hrb.out], Hu4.out.step huz (fun i hi h => by omega)⟩
  · rw [decide_eq_false h1] at he
    subst he
    go_wp2_with fail
    refine wp_region_slots #[true, true, true, true] ([.val (.agg #[.int .u64 s0, .int .u64 s1, .int .u64 s2, .int .u64 s3, .int .u64 s4]), .val (.agg #[.int .u64 u0, .int .u64 u1, .int .u64 u2, .int .u64 u3, .int .u64 u4]), .elem (-m), .val (.bool (decide (sqV m n % pp = -m % pp)))] : List SP) (by kernel_rfl) (by kernel_rfl) (by kernel_rfl) ?_ ?_
    · intro i o listed an wn ho hls hst hun hdep hI K' hK'
      have hi : i < 4 := by
        have := idx_lt ho; simp at this; omega
      have hcase : i = 0 ∨ i = 1 ∨ i = 2 ∨ i = 3 := by omega
      rcases hcase with rfl | rfl | rfl | rfl
      · obtain rfl := Option.some.inj ho
        exact hI.stepLoad (by kernel_rfl) hls rfl rfl rfl 39 7 rfl (by kernel_rfl) (bS) 5 rfl 39 (#[.int .u64 s0, .int .u64 s1, .int .u64 s2, .int .u64 s3, .int .u64 s4]) Hx4.out _ Tryd.underlying39 rfl info28 rfl rfl rfl hK'
      · obtain rfl := Option.some.inj ho
        exact hI.stepLoad (by kernel_rfl) hls rfl rfl rfl 39 2 rfl (by kernel_rfl) (w.heap.size) 5 rfl 39 (#[.int .u64 u0, .int .u64 u1, .int .u64 u2, .int .u64 u3, .int .u64 u4]) Hx0.out _ Tryd.underlying39 rfl info28 rfl rfl rfl hK'
      · obtain rfl := Option.some.inj ho
        obtain ⟨vp, hvp, hsp⟩ := hI.have 1 _ 22 (.val (.agg #[.int .u64 u0, .int .u64 u1, .int .u64 u2, .int .u64 u3, .int .u64 u4])) rfl rfl rfl (hdep ⟨1, .data⟩ (by simp) rfl)
        obtain rfl := hsp
        exact hI.stepCall (by kernel_rfl) hls rfl rfl rfl 63 #[.tmp 22] _ rfl #[.agg #[.int .u64 u0, .int .u64 u1, .int .u64 u2, .int .u64 u3, .int .u64 u4]] (by simp [eval_of hvp]) enterNeg (.elem (-m)) rfl rfl ((neg_any u0 u1 u2 u3 u4 m _ (HT.out.upd (Hu3.out.drew.trans hI.upd)) HU.out).mono fun _ _ h => h.sp) hK'
      · obtain rfl := Option.some.inj ho
        obtain ⟨vp, hvp, hsp⟩ := hI.have 0 _ 21 (.val (.agg #[.int .u64 s0, .int .u64 s1, .int .u64 s2, .int .u64 s3, .int .u64 s4])) rfl rfl rfl (hdep ⟨0, .data⟩ (by simp) rfl)
        obtain rfl := hsp
        obtain ⟨vq, hvq, q0, q1, q2, q3, q4, rfl, hFq⟩ := hI.have 2 _ 23 (.elem (-m)) rfl rfl rfl (hdep ⟨2, .data⟩ (by simp) rfl)
        exact hI.stepCall (by kernel_rfl) hls rfl rfl rfl 71 #[.tmp 21, .tmp 23] _ rfl #[.agg #[.int .u64 s0, .int .u64 s1, .int .u64 s2, .int .u64 s3, .int .u64 s4], .agg #[.int .u64 q0, .int .u64 q1, .int .u64 q2, .int .u64 q3, .int .u64 q4]] (by simp [eval_of hvp, eval_of hvq]) enterEqual (.val (.bool (decide (sqV m n % pp = -m % pp)))) rfl rfl ((equal_any s0 s1 s2 s3 s4 q0 q1 q2 q3 q4 (sqV m n) (-m) _ HS.out hFq).mono fun _ _ h => ⟨_, h.1, rfl, h.2⟩) hK'
    · intro fuel an wn hf hI
      obtain ⟨v0, hv0, hs0⟩ := hI.have 0 _ 21 (.val (.agg #[.int .u64 s0, .int .u64 s1, .int .u64 s2, .int .u64 s3, .int .u64 s4])) rfl rfl rfl rfl
      obtain rfl := hs0
      obtain ⟨v1, hv1, hs1⟩ := hI.have 1 _ 22 (.val (.agg #[.int .u64 u0, .int .u64 u1, .int .u64 u2, .int .u64 u3, .int .u64 u4])) rfl rfl rfl rfl
      obtain rfl := hs1
      obtain ⟨v2, hv2, e2_0, e2_1, e2_2, e2_3, e2_4, rfl, hF2⟩ := hI.have 2 _ 23 (.elem (-m)) rfl rfl rfl rfl
      obtain ⟨v3, hv3, hs3⟩ := hI.have 3 _ 24 (.val (.bool (decide (sqV m n % pp = -m % pp)))) rfl rfl rfl rfl
      obtain rfl := hs3
      have hupd := hI.upd
      have ha := hI.act [(21, .agg #[.int .u64 s0, .int .u64 s1, .int .u64 s2, .int .u64 s3, .int .u64 s4]), (22, .agg #[.int .u64 u0, .int .u64 u1, .int .u64 u2, .int .u64 u3, .int .u64 u4]), (23, .agg #[.int .u64 e2_0, .int .u64 e2_1, .int .u64 e2_2, .int .u64 e2_3, .int .u64 e2_4]), (24, .bool (decide (sqV m n % pp = -m % pp)))] (by simp [hv0, hv1, hv2, hv3]) (by kernel_rfl)
      clear hI hv0 hv1 hv2 hv3
      subst ha
      simp only [List.foldl_cons, List.foldl_nil, List.setIfInBounds_toArray, List.set_cons_zero, List.set_cons_succ]
      refine wpAny_done (by kernel_rfl) ?_ _
      have Hy2 := Lib.hid (hupd.blk (show Blk _ _ _ _ from Hx2.out) (fun h => h))
      have Hy3 := Lib.hid (hupd.blk (show Blk _ _ _ _ from Hx3.out) (fun h => h))
      have Hu4 := Lib.hid (Hu3.out.drew.trans hupd)
      clear hupd hF2 Hx0 Hx2 Hx3 Hx4 Hu3
      by_cases h2 : sqV m n % pp = -m % pp
      · rw [decide_eq_true h2]
        have Hrv : Hid (rootV m n = evenV (candV m n * iV)) := by show _ = _; unfold rootV; rw [if_neg h1, if_pos h2]
        have Hrb : Hid (rootB m n = true) := by show _ = _; unfold rootB; rw [decide_eq_true h2, Bool.or_true]
        clear h1 h2
        go_wp2
        refine wp_region_slots #[true, true, true, true, false, false] ([.val (.agg #[.int .u64 c0, .int .u64 c1, .int .u64 c2, .int .u64 c3, .int .u64 c4]), .elem (iV), .elem ((candV m n) * iV), .elem (evenV ((candV m n) * iV))] : List SP) (by kernel_rfl) (by kernel_rfl) (by kernel_rfl) ?_ ?_
        · intro i o listed an wn ho hls hst hun hdep hI K' hK'
          have hi : i < 4 := by
            rcases Nat.lt_or_ge i 4 with h | h
            · exact h
            · exfalso
              have hq : i = 4 ∨ i = 5 ∨ 6 ≤ i := by omega
              rcases hq with rfl | rfl | h2
              · cases hst
              · cases hst
              · have := idx_lt ho; simp at this; omega
          have hcase : i = 0 ∨ i = 1 ∨ i = 2 ∨ i = 3 := by omega
          rcases hcase with rfl | rfl | rfl | rfl
          · obtain rfl := Option.some.inj ho
            exact hI.stepLoad (by kernel_rfl) hls rfl rfl rfl 39 6 rfl (by kernel_rfl) (bX) 5 rfl 39 (#[.int .u64 c0, .int .u64 c1, .int .u64 c2, .int .u64 c3, .int .u64 c4]) Hy3.out _ Tryd.underlying39 rfl info28 rfl rfl rfl hK'
          · obtain rfl := Option.some.inj ho
            exact hI.stepCall (by kernel_rfl) hls rfl rfl rfl 103 #[] _ rfl #[] (by simp) enterrootOfMinusOne (.elem (iV)) rfl rfl ((rootOfMinusOne_any _).mono fun _ _ h => h.sp) hK'
          · obtain rfl := Option.some.inj ho
            obtain ⟨vp, hvp, hsp⟩ := hI.have 0 _ 25 (.val (.agg #[.int .u64 c0, .int .u64 c1, .int .u64 c2, .int .u64 c3, .int .u64 c4])) rfl rfl rfl (hdep ⟨0, .data⟩ (by simp) rfl)
            obtain rfl := hsp
            obtain ⟨vq, hvq, q0, q1, q2, q3, q4, rfl, hFq⟩ := hI.have 1 _ 26 (.elem (iV)) rfl rfl rfl (hdep ⟨1, .data⟩ (by simp) rfl)
            exact hI.stepCall (by kernel_rfl) hls rfl rfl rfl 44 #[.tmp 25, .tmp 26] _ rfl #[.agg #[.int .u64 c0, .int .u64 c1, .int .u64 c2, .int .u64 c3, .int .u64 c4], .agg #[.int .u64 q0, .int .u64 q1, .int .u64 q2, .int .u64 q3, .int .u64 q4]] (by simp [eval_of hvp, eval_of hvq]) enterMul (.elem ((candV m n) * iV)) rfl rfl ((mul_any c0 c1 c2 c3 c4 q0 q1 q2 q3 q4 (candV m n) iV _ HC.out hFq).mono fun _ _ h => h.sp) hK'
          · obtain rfl := Option.some.inj ho
            obtain ⟨vp, hvp, p0, p1, p2, p3, p4, rfl, hFp⟩ := hI.have 2 _ 27 (.elem ((candV m n) * iV)) rfl rfl rfl (hdep ⟨2, .data⟩ (by simp) rfl)
            exact hI.stepCall (by kernel_rfl) hls rfl rfl rfl 102 #[.tmp 27] _ rfl #[.agg #[.int .u64 p0, .int .u64 p1, .int .u64 p2, .int .u64 p3, .int .u64 p4]] (by simp [eval_of hvp]) entereven (.elem (evenV ((candV m n) * iV))) rfl rfl ((even_any p0 p1 p2 p3 p4 ((candV m n) * iV) _ (HT.out.upd (Hu4.out.drew.trans hI.upd)) hFp).mono fun _ _ h => h.sp) hK'
        · intro fuel an wn hf hI
          obtain ⟨vy0, hvy0, hsy0⟩ := hI.have 0 _ 25 (.val (.agg #[.int .u64 c0, .int .u64 c1, .int .u64 c2, .int .u64 c3, .int .u64 c4])) rfl rfl rfl rfl
          obtain rfl := hsy0
          obtain ⟨vy1, hvy1, ey1_0, ey1_1, ey1_2, ey1_3, ey1_4, rfl, hFy1⟩ := hI.have 1 _ 26 (.elem (iV)) rfl rfl rfl rfl
          obtain ⟨vy2, hvy2, ey2_0, ey2_1, ey2_2, ey2_3, ey2_4, rfl, hFy2⟩ := hI.have 2 _ 27 (.elem ((candV m n) * iV)) rfl rfl rfl rfl
          obtain ⟨vy3, hvy3, ey3_0, ey3_1, ey3_2, ey3_3, ey3_4, rfl, hFy3⟩ := hI.have 3 _ 28 (.elem (evenV ((candV m n) * iV))) rfl rfl rfl rfl
          have hupd := hI.upd
          have ha := hI.act [(25, .agg #[.int .u64 c0, .int .u64 c1, .int .u64 c2, .int .u64 c3, .int .u64 c4]), (26, .agg #[.int .u64 ey1_0, .int .u64 ey1_1, .int .u64 ey1_2, .int .u64 ey1_3, .int .u64 ey1_4]), (27, .agg #[.int .u64 ey2_0, .int .u64 ey2_1, .int .u64 ey2_2, .int .u64 ey2_3, .int .u64 ey2_4]), (28, .agg #[.int .u64 ey3_0, .int .u64 ey3_1, .int .u64 ey3_2, .int .u64 ey3_3, .int .u64 ey3_4])] (by simp [hvy0, hvy1, hvy2, hvy3]) (by kernel_rfl)
          clear hI hvy0 hvy1 hvy2 hvy3
          subst ha
          simp only [List.foldl_cons, List.foldl_nil, List.setIfInBounds_toArray, List.set_cons_zero, List.set_cons_succ]
          have hf0 : left #[true, true, true, true, false, false] 6 = 2 := by kernel_rfl
          have hf1 : left #[true, true, true, true, false, false] 6 ≤ fuel := hf
          obtain ⟨fu, rfl⟩ : ∃ fu, fuel = fu + 2 := ⟨fuel - 2, by omega⟩
          clear hf hf0 hf1
          refine wpAny_ready (rs := [4]) (by kernel_rfl) (by simp) (AllReady.cons rfl (fun K hK => ?_) AllReady.nil)
          refine step_storeBlk2 rfl 39 (.tmp 4) (.tmp 28) rfl (w.heap.size + 1 + 1) 0 5 rfl (#[.int .u64 ey3_0, .int .u64 ey3_1, .int .u64 ey3_2, .int .u64 ey3_3, .int .u64 ey3_4]) rfl 39 (#[.int .u64 0, .int .u64 0, .int .u64 0, .int .u64 0, .int .u64 0]) (hupd.blk (show Blk _ _ _ _ from Hy2.out) (fun h => h)) info28 rfl (by simp) (one5 _ _ _ _ _) ?_
          intro wsy0 hsy0 husy0 _
          rw [splice_all _ _ 5 rfl rfl] at hsy0
          refine hK _ _ ?_
          clear hK K
          dsimp only [Act.put]
          refine wpAny_ready (rs := [5]) (by kernel_rfl) (by simp) (AllReady.cons rfl (fun K hK => ?_) AllReady.nil)
          refine step_pure rfl 5 rfl (.bool true) (by first | rfl | simp [execOp, Act.eval]) ?_
          refine hK _ _ ?_
          clear hK K
          try dsimp only
          simp only [List.setIfInBounds_toArray, List.set_cons_zero, List.set_cons_succ]
          refine wpAny_done (by kernel_rfl) ?_ _
          go_wp2
          exact bodyPost_ret (v := .tuple #[.agg #[.int .u64 ey3_0, .int .u64 ey3_1, .int .u64 ey3_2, .int .u64 ey3_3, .int .u64 ey3_4], .bool true]) (results_cell_tmp (fn := Tryd.f93) (p := 4) (u := 5) (ty := 39) rfl _ _ (w.heap.size + 1 + 1) 39 _ (0, 0) _ rfl hsy0 Tryd.underlying39 rfl info28 (.bool true) rfl) rfl ⟨_, _, _, _, _, by rw [Hrv.out]; exact hFy3, by rw [Hrb.out], (Hu4.out.drew.trans hupd).step husy0 (fun i hi h => by omega)⟩
      · rw [decide_eq_false h2]
        have Hrv : Hid (rootV m n = 0) := by show _ = _; unfold rootV; rw [if_neg h1, if_neg h2]
        have Hrb : Hid (rootB m n = false) := by show _ = _; unfold rootB; rw [decide_eq_false h1, decide_eq_false h2]; rfl
        clear h1 h2
        have hze := zeroE_run
        go_wp2_with (refine wpList_storeBlk2 rfl 39 _ _ rfl (w.heap.size + 1 + 1) 0 5 rfl #[.int .u64 0, .int .u64 0, .int .u64 0, .int .u64 0, .int .u64 0] rfl 39 _ Hy2.out info28 rfl (by simp) (one5 _ _ _ _ _) ?_; intro wz hbz huz hzz; rw [splice_all _ _ 5 rfl rfl] at hbz)
        exact bodyPost_ret (v := .tuple #[.agg #[.int .u64 0, .int .u64 0, .int .u64 0, .int .u64 0, .int .u64 0], .bool false]) (results_cell_tmp (fn := Tryd.f93) (p := 4) (u := 5) (ty := 39) rfl _ _ (w.heap.size + 1 + 1) 39 _ (0, 0) _ rfl hbz Tryd.underlying39 rfl info28 (.bool false) rfl) rfl ⟨0, 0, 0, 0, 0, by rw [Hrv.out]; exact fits_zero, by rw [Hrb.out], Hu4.out.step huz (fun i hi h => by omega)⟩
end Go.Proofs.YtdpafemcpbhlfaaDoor
