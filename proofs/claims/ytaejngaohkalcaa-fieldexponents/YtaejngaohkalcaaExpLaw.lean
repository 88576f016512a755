/-
  The walk of FieldExponents.
-/
import Derived.Test.YtaejngaohkalcaaRefF
namespace Go.Proofs.Ytaejngaohkalcaa
open Go.RowKit

theorem enterEqual (vs : Array Value) (w : World) : (callFunc 20 vs).run Try.prog w = .ok (.enter 20 vs) w := run_enter Try.func20 (by kernel_rfl) (by kernel_rfl) vs w
theorem enterMul (vs : Array Value) (w : World) : (callFunc 17 vs).run Try.prog w = .ok (.enter 17 vs) w := run_enter Try.func17 (by kernel_rfl) (by kernel_rfl) vs w
set_option maxRecDepth 100000 in
set_option maxHeartbeats 4000000 in
theorem fieldExponents_any (l : List Int) (a b : Int) (w : World) (hl : l.length = 32) (hd : Digs 256 l) (ha : 0 ≤ a ∧ a < 65536) (hb : 0 ≤ b ∧ b < 65536) :
    Calls Try.prog 6 #[.agg (numsA .u8 l), .int .u16 a, .int .u16 b] w fun e w' => e = .returned (.bool true) ∧ Upd (fun _ => False) w w' := by
  have hz := zeroK_run
  have Hl := Lib.hid hl
  have Hd := Lib.hid hd
  obtain ⟨ha0, ha1⟩ := ha
  obtain ⟨hb0, hb1⟩ := hb
  have HA : Hid ((numsA .u8 l).size = 32) := by show _ = _; rw [numsA_size]; exact hl
  clear hl hd
  go_enter Try.func6, Try.ntmps6
  go_wp2_with fail
  refine (counts_any _).mono ?_
  rintro e w1 ⟨rfl, hu⟩
  have Hk := Lib.hid (hu.blk (Blk.at1 w (numsA .u8 l) 23) (fun h => h))
  have Hu1 := Lib.hid (((Upd.refl (fun _ => False) w).alloc _).trans hu)
  clear hu
  go_wp2_with (refine wpList_loadBlk rfl 23 _ rfl w.heap.size 0 32 rfl 23 (numsA .u8 l) _ Hk.out Try.underlying23 rfl sizeKey (by rw [HA.out]; omega) ?_; rw [extract_all _ _ HA.out])
  refine (of_any l _ Hl.out Hd.out).mono ?_
  rintro e w2 ⟨x0, x1, x2, x3, x4, hFx, rfl, hu⟩
  have Hu2 := Lib.hid (Hu1.out.trans hu)
  have HFx := Lib.hid hFx
  clear hu hFx Hk Hu1
  obtain ⟨s, hs⟩ : ∃ s, s = ((a + b) % 256 :: (a + b) / 256 % 256 :: (a + b) / 65536 :: List.replicate 29 0) := ⟨_, rfl⟩
  have Hse := Lib.hid hs
  have Hds : Hid (Digs 256 s) := by show Digs _ _; rw [hs]; exact digs3 (by omega) (by omega) (by omega) 29
  have Hes : Hid (expo s = a.toNat + b.toNat) := by show _ = _; rw [hs, expo_three]; omega
  have Hls : Hid (s.length = 32) := by show _ = _; rw [hs]; simp
  have HS : Hid ((numsA .u8 s).size = 32) := by show _ = _; rw [numsA_size]; exact Hls.out
  clear hs
  go_wp2_with (first
    | (refine wpList_storeBlk2 rfl 23 _ _ rfl (w2.heap.size + 1) 0 32 rfl (numsA .u8 s) (Eq.trans rfl (congrArg Value.agg ((build3 _ _ _).trans (congrArg (numsA .u8) Hse.out.symm)))) 23 zeroK (Blk.at2 w2 _ _ _) sizeKey HS.out (by rw [zeroK_size]; omega) (numsA_one _ _) ?_; intro w3 hb3 hu3 hz3; rw [splice_all _ _ 32 zeroK_size HS.out] at hb3; have Hs3 := Lib.hid hb3; have Hx3 := Lib.hid (hu3.blk ((Blk.at1 w2 #[.int .u64 x0, .int .u64 x1, .int .u64 x2, .int .u64 x3, .int .u64 x4] 33).alloc _) (by simp)); have Hu3 := Lib.hid (((Hu2.out.alloc _).alloc _).step hu3 (fun i hi h => (by have := Hu2.out.size; omega))); obtain ⟨t0, t1, t2, t3, t4⟩ := cells5p Hx3.out; clear hb3 hu3 hz3)
    | (refine wpList_loadBlk rfl 23 _ rfl (w2.heap.size + 1) 0 32 rfl 23 (numsA .u8 s) _ Hs3.out Try.underlying23 rfl sizeKey (by rw [HS.out]; omega) ?_; rw [extract_all _ _ HS.out]))
  refine (power_any x0 x1 x2 x3 x4 (keyNum l) s _ HFx.out Hls.out Hds.out).mono ?_
  rintro e w4 ⟨y0, y1, y2, y3, y4, hFy, rfl, hu⟩
  have Hx4 := Lib.hid (hu.blk Hx3.out (fun h => h))
  have Hu4 := Lib.hid (Hu3.out.trans hu)
  have HFy := Lib.hid hFy
  clear hu hFy t0 t1 t2 t3 t4 Hs3 Hx3 Hu3 Hu2
  go_wp2_with fail
  have Hx5 := Lib.hid (Hx4.out.alloc (.cells #[.int .u64 y0, .int .u64 y1, .int .u64 y2, .int .u64 y3, .int .u64 y4] 33))
  have Hy5 := Lib.hid (Blk.at1 w4 #[.int .u64 y0, .int .u64 y1, .int .u64 y2, .int .u64 y3, .int .u64 y4] 33)
  have Hu5 := Lib.hid (Hu4.out.alloc (.cells #[.int .u64 y0, .int .u64 y1, .int .u64 y2, .int .u64 y3, .int .u64 y4] 33))
  clear Hx4 Hu4
  refine wp_region_slots #[true, true, true, true, true, true, true, true, true, true, true, true, true, true, true, true, true, true, false] ([.val (.agg #[.int .u64 x0, .int .u64 x1, .int .u64 x2, .int .u64 x3, .int .u64 x4]), .val (.int .u16 a), .val (.int .u8 (a % 256)), .val (.int .u16 a), .val (.int .u16 (a / 256)), .val (.int .u8 (a / 256 % 256)), .val (.agg (numsA .u8 (a % 256 :: a / 256 % 256 :: List.replicate 30 0))), .elem (keyNum l ^ expo (a % 256 :: a / 256 % 256 :: List.replicate 30 0)), .val (.agg #[.int .u64 x0, .int .u64 x1, .int .u64 x2, .int .u64 x3, .int .u64 x4]), .val (.int .u16 b), .val (.int .u8 (b % 256)), .val (.int .u16 b), .val (.int .u16 (b / 256)), .val (.int .u8 (b / 256 % 256)), .val (.agg (numsA .u8 (b % 256 :: b / 256 % 256 :: List.replicate 30 0))), .elem (keyNum l ^ expo (b % 256 :: b / 256 % 256 :: List.replicate 30 0)), .elem ((keyNum l ^ expo (a % 256 :: a / 256 % 256 :: List.replicate 30 0)) * (keyNum l ^ expo (b % 256 :: b / 256 % 256 :: List.replicate 30 0))), .new 33 #[.int .u64 0, .int .u64 0, .int .u64 0, .int .u64 0, .int .u64 0]] : List SP) (by kernel_rfl) (by kernel_rfl) (by kernel_rfl) ?_ ?_
  · intro i o listed an wn ho hls hst hun hdep hI K' hK'
    have hi : i < 18 := by
      rcases Nat.lt_or_ge i 18 with h | h
      · exact h
      · exfalso
        have hq : i = 18 ∨ 19 ≤ i := by omega
        rcases hq with rfl | h2
        · cases hst
        · have := idx_lt ho; simp at this; omega
    have hcase : i = 0 ∨ i = 1 ∨ i = 2 ∨ i = 3 ∨ i = 4 ∨ i = 5 ∨ i = 6 ∨ i = 7 ∨ i = 8 ∨ i = 9 ∨ i = 10 ∨ i = 11 ∨ i = 12 ∨ i = 13 ∨ i = 14 ∨ i = 15 ∨ i = 16 ∨ i = 17 := by omega
    rcases hcase with rfl | rfl | rfl | rfl | rfl | rfl | rfl | rfl | rfl | rfl | rfl | rfl | rfl | rfl | rfl | rfl | rfl | rfl
    · obtain rfl := Option.some.inj ho
      exact hI.stepLoad (by kernel_rfl) hls rfl rfl rfl 33 7 rfl (by kernel_rfl) (w2.heap.size) 5 rfl 33 (#[.int .u64 x0, .int .u64 x1, .int .u64 x2, .int .u64 x3, .int .u64 x4]) Hx5.out _ Try.underlying33 rfl info28 rfl rfl rfl hK'
    · obtain rfl := Option.some.inj ho
      have hold := hI.old (t := 1) (by kernel_rfl) rfl
      exact hI.stepPure (by kernel_rfl) hls rfl rfl rfl (.int .u16 a) (by simp [execOp, hold]) rfl rfl hK'
    · obtain rfl := Option.some.inj ho
      obtain ⟨vp, hvp, hsp⟩ := hI.have 1 _ 37 (.val (.int .u16 a)) rfl rfl rfl (hdep ⟨1, .data⟩ (by simp) rfl)
      obtain rfl := hsp
      exact hI.stepPure (by kernel_rfl) hls rfl rfl rfl (.int .u8 (a % 256)) (run_conv16 rfl (eval_of hvp) wn) rfl rfl hK'
    · obtain rfl := Option.some.inj ho
      have hold := hI.old (t := 1) (by kernel_rfl) rfl
      exact hI.stepPure (by kernel_rfl) hls rfl rfl rfl (.int .u16 a) (by simp [execOp, hold]) rfl rfl hK'
    · obtain rfl := Option.some.inj ho
      obtain ⟨vp, hvp, hsp⟩ := hI.have 3 _ 39 (.val (.int .u16 a)) rfl rfl rfl (hdep ⟨3, .data⟩ (by simp) rfl)
      obtain rfl := hsp
      exact hI.stepPure (by kernel_rfl) hls rfl rfl rfl (.int .u16 (a / 256)) (run_shr16 rfl (eval_of hvp) rfl wn) rfl rfl hK'
    · obtain rfl := Option.some.inj ho
      obtain ⟨vp, hvp, hsp⟩ := hI.have 4 _ 40 (.val (.int .u16 (a / 256))) rfl rfl rfl (hdep ⟨4, .data⟩ (by simp) rfl)
      obtain rfl := hsp
      exact hI.stepPure (by kernel_rfl) hls rfl rfl rfl (.int .u8 (a / 256 % 256)) (run_conv16 rfl (eval_of hvp) wn) rfl rfl hK'
    · obtain rfl := Option.some.inj ho
      obtain ⟨vp, hvp, hsp⟩ := hI.have 2 _ 38 (.val (.int .u8 (a % 256))) rfl rfl rfl (hdep ⟨2, .data⟩ (by simp) rfl)
      obtain rfl := hsp
      obtain ⟨vq, hvq, hsq⟩ := hI.have 5 _ 41 (.val (.int .u8 (a / 256 % 256))) rfl rfl rfl (hdep ⟨5, .data⟩ (by simp) rfl)
      obtain rfl := hsq
      exact hI.stepPure (by kernel_rfl) hls rfl rfl rfl (.agg (numsA .u8 (a % 256 :: a / 256 % 256 :: List.replicate 30 0))) (run_build2 rfl (eval_of hvp) (eval_of hvq) wn) rfl rfl hK'
    · obtain rfl := Option.some.inj ho
      obtain ⟨vp, hvp, hsp⟩ := hI.have 0 _ 36 (.val (.agg #[.int .u64 x0, .int .u64 x1, .int .u64 x2, .int .u64 x3, .int .u64 x4])) rfl rfl rfl (hdep ⟨0, .data⟩ (by simp) rfl)
      obtain rfl := hsp
      obtain ⟨vq, hvq, hsq⟩ := hI.have 6 _ 42 (.val (.agg (numsA .u8 (a % 256 :: a / 256 % 256 :: List.replicate 30 0)))) rfl rfl rfl (hdep ⟨6, .data⟩ (by simp) rfl)
      obtain rfl := hsq
      exact hI.stepCall (by kernel_rfl) hls rfl rfl rfl 23 #[.tmp 36, .tmp 42] _ rfl #[.agg #[.int .u64 x0, .int .u64 x1, .int .u64 x2, .int .u64 x3, .int .u64 x4], .agg (numsA .u8 (a % 256 :: a / 256 % 256 :: List.replicate 30 0))] (by simp [eval_of hvp, eval_of hvq]) enterPower (.elem (keyNum l ^ expo (a % 256 :: a / 256 % 256 :: List.replicate 30 0))) rfl rfl ((power_any x0 x1 x2 x3 x4 (keyNum l) (a % 256 :: a / 256 % 256 :: List.replicate 30 0) _ HFx.out (by simp) (digs2 (by omega) (by omega) 30)).mono fun _ _ h => h.sp) hK'
    · obtain rfl := Option.some.inj ho
      exact hI.stepLoad (by kernel_rfl) hls rfl rfl rfl 33 7 rfl (by kernel_rfl) (w2.heap.size) 5 rfl 33 (#[.int .u64 x0, .int .u64 x1, .int .u64 x2, .int .u64 x3, .int .u64 x4]) Hx5.out _ Try.underlying33 rfl info28 rfl rfl rfl hK'
    · obtain rfl := Option.some.inj ho
      have hold := hI.old (t := 2) (by kernel_rfl) rfl
      exact hI.stepPure (by kernel_rfl) hls rfl rfl rfl (.int .u16 b) (by simp [execOp, hold]) rfl rfl hK'
    · obtain rfl := Option.some.inj ho
      obtain ⟨vp, hvp, hsp⟩ := hI.have 9 _ 45 (.val (.int .u16 b)) rfl rfl rfl (hdep ⟨9, .data⟩ (by simp) rfl)
      obtain rfl := hsp
      exact hI.stepPure (by kernel_rfl) hls rfl rfl rfl (.int .u8 (b % 256)) (run_conv16 rfl (eval_of hvp) wn) rfl rfl hK'
    · obtain rfl := Option.some.inj ho
      have hold := hI.old (t := 2) (by kernel_rfl) rfl
      exact hI.stepPure (by kernel_rfl) hls rfl rfl rfl (.int .u16 b) (by simp [execOp, hold]) rfl rfl hK'
    · obtain rfl := Option.some.inj ho
      obtain ⟨vp, hvp, hsp⟩ := hI.have 11 _ 47 (.val (.int .u16 b)) rfl rfl rfl (hdep ⟨11, .data⟩ (by simp) rfl)
      obtain rfl := hsp
      exact hI.stepPure (by kernel_rfl) hls rfl rfl rfl (.int .u16 (b / 256)) (run_shr16 rfl (eval_of hvp) rfl wn) rfl rfl hK'
    · obtain rfl := Option.some.inj ho
      obtain ⟨vp, hvp, hsp⟩ := hI.have 12 _ 48 (.val (.int .u16 (b / 256))) rfl rfl rfl (hdep ⟨12, .data⟩ (by simp) rfl)
      obtain rfl := hsp
      exact hI.stepPure (by kernel_rfl) hls rfl rfl rfl (.int .u8 (b / 256 % 256)) (run_conv16 rfl (eval_of hvp) wn) rfl rfl hK'
    · obtain rfl := Option.some.inj ho
      obtain ⟨vp, hvp, hsp⟩ := hI.have 10 _ 46 (.val (.int .u8 (b % 256))) rfl rfl rfl (hdep ⟨10, .data⟩ (by simp) rfl)
      obtain rfl := hsp
      obtain ⟨vq, hvq, hsq⟩ := hI.have 13 _ 49 (.val (.int .u8 (b / 256 % 256))) rfl rfl rfl (hdep ⟨13, .data⟩ (by simp) rfl)
      obtain rfl := hsq
      exact hI.stepPure (by kernel_rfl) hls rfl rfl rfl (.agg (numsA .u8 (b % 256 :: b / 256 % 256 :: List.replicate 30 0))) (run_build2 rfl (eval_of hvp) (eval_of hvq) wn) rfl rfl hK'
    · obtain rfl := Option.some.inj ho
      obtain ⟨vp, hvp, hsp⟩ := hI.have 8 _ 44 (.val (.agg #[.int .u64 x0, .int .u64 x1, .int .u64 x2, .int .u64 x3, .int .u64 x4])) rfl rfl rfl (hdep ⟨8, .data⟩ (by simp) rfl)
      obtain rfl := hsp
      obtain ⟨vq, hvq, hsq⟩ := hI.have 14 _ 50 (.val (.agg (numsA .u8 (b % 256 :: b / 256 % 256 :: List.replicate 30 0)))) rfl rfl rfl (hdep ⟨14, .data⟩ (by simp) rfl)
      obtain rfl := hsq
      exact hI.stepCall (by kernel_rfl) hls rfl rfl rfl 23 #[.tmp 44, .tmp 50] _ rfl #[.agg #[.int .u64 x0, .int .u64 x1, .int .u64 x2, .int .u64 x3, .int .u64 x4], .agg (numsA .u8 (b % 256 :: b / 256 % 256 :: List.replicate 30 0))] (by simp [eval_of hvp, eval_of hvq]) enterPower (.elem (keyNum l ^ expo (b % 256 :: b / 256 % 256 :: List.replicate 30 0))) rfl rfl ((power_any x0 x1 x2 x3 x4 (keyNum l) (b % 256 :: b / 256 % 256 :: List.replicate 30 0) _ HFx.out (by simp) (digs2 (by omega) (by omega) 30)).mono fun _ _ h => h.sp) hK'
    · obtain rfl := Option.some.inj ho
      obtain ⟨vp, hvp, p0, p1, p2, p3, p4, rfl, hFp⟩ := hI.have 7 _ 43 (.elem (keyNum l ^ expo (a % 256 :: a / 256 % 256 :: List.replicate 30 0))) rfl rfl rfl (hdep ⟨7, .data⟩ (by simp) rfl)
      obtain ⟨vq, hvq, q0, q1, q2, q3, q4, rfl, hFq⟩ := hI.have 15 _ 51 (.elem (keyNum l ^ expo (b % 256 :: b / 256 % 256 :: List.replicate 30 0))) rfl rfl rfl (hdep ⟨15, .data⟩ (by simp) rfl)
      exact hI.stepCall (by kernel_rfl) hls rfl rfl rfl 17 #[.tmp 43, .tmp 51] _ rfl #[.agg #[.int .u64 p0, .int .u64 p1, .int .u64 p2, .int .u64 p3, .int .u64 p4], .agg #[.int .u64 q0, .int .u64 q1, .int .u64 q2, .int .u64 q3, .int .u64 q4]] (by simp [eval_of hvp, eval_of hvq]) enterMul (.elem ((keyNum l ^ expo (a % 256 :: a / 256 % 256 :: List.replicate 30 0)) * (keyNum l ^ expo (b % 256 :: b / 256 % 256 :: List.replicate 30 0)))) rfl rfl ((mul_any p0 p1 p2 p3 p4 q0 q1 q2 q3 q4 (keyNum l ^ expo (a % 256 :: a / 256 % 256 :: List.replicate 30 0)) (keyNum l ^ expo (b % 256 :: b / 256 % 256 :: List.replicate 30 0)) _ hFp hFq).mono fun _ _ h => h.sp) hK'
    · obtain rfl := Option.some.inj ho
      exact hI.stepAlloc (by kernel_rfl) hls (Nat.le_refl _) (newsB_spec (by kernel_rfl)) rfl rfl rfl 33 rfl #[.int .u64 0, .int .u64 0, .int .u64 0, .int .u64 0, .int .u64 0] zeroE_run rfl hK'
  · intro fuel an wn hf hI
    obtain ⟨v0, hv0, hs0⟩ := hI.have 0 _ 36 (.val (.agg #[.int .u64 x0, .int .u64 x1, .int .u64 x2, .int .u64 x3, .int .u64 x4])) rfl rfl rfl rfl
    obtain rfl := hs0
    obtain ⟨v1, hv1, hs1⟩ := hI.have 1 _ 37 (.val (.int .u16 a)) rfl rfl rfl rfl
    obtain rfl := hs1
    obtain ⟨v2, hv2, hs2⟩ := hI.have 2 _ 38 (.val (.int .u8 (a % 256))) rfl rfl rfl rfl
    obtain rfl := hs2
    obtain ⟨v3, hv3, hs3⟩ := hI.have 3 _ 39 (.val (.int .u16 a)) rfl rfl rfl rfl
    obtain rfl := hs3
    obtain ⟨v4, hv4, hs4⟩ := hI.have 4 _ 40 (.val (.int .u16 (a / 256))) rfl rfl rfl rfl
    obtain rfl := hs4
    obtain ⟨v5, hv5, hs5⟩ := hI.have 5 _ 41 (.val (.int .u8 (a / 256 % 256))) rfl rfl rfl rfl
    obtain rfl := hs5
    obtain ⟨v6, hv6, hs6⟩ := hI.have 6 _ 42 (.val (.agg (numsA .u8 (a % 256 :: a / 256 % 256 :: List.replicate 30 0)))) rfl rfl rfl rfl
    obtain rfl := hs6
    obtain ⟨v7, hv7, e7_0, e7_1, e7_2, e7_3, e7_4, rfl, hF7⟩ := hI.have 7 _ 43 (.elem (keyNum l ^ expo (a % 256 :: a / 256 % 256 :: List.replicate 30 0))) rfl rfl rfl rfl
    obtain ⟨v8, hv8, hs8⟩ := hI.have 8 _ 44 (.val (.agg #[.int .u64 x0, .int .u64 x1, .int .u64 x2, .int .u64 x3, .int .u64 x4])) rfl rfl rfl rfl
    obtain rfl := hs8
    obtain ⟨v9, hv9, hs9⟩ := hI.have 9 _ 45 (.val (.int .u16 b)) rfl rfl rfl rfl
    obtain rfl := hs9
    obtain ⟨v10, hv10, hs10⟩ := hI.have 10 _ 46 (.val (.int .u8 (b % 256))) rfl rfl rfl rfl
    obtain rfl := hs10
    obtain ⟨v11, hv11, hs11⟩ := hI.have 11 _ 47 (.val (.int .u16 b)) rfl rfl rfl rfl
    obtain rfl := hs11
    obtain ⟨v12, hv12, hs12⟩ := hI.have 12 _ 48 (.val (.int .u16 (b / 256))) rfl rfl rfl rfl
    obtain rfl := hs12
    obtain ⟨v13, hv13, hs13⟩ := hI.have 13 _ 49 (.val (.int .u8 (b / 256 % 256))) rfl rfl rfl rfl
    obtain rfl := hs13
    obtain ⟨v14, hv14, hs14⟩ := hI.have 14 _ 50 (.val (.agg (numsA .u8 (b % 256 :: b / 256 % 256 :: List.replicate 30 0)))) rfl rfl rfl rfl
    obtain rfl := hs14
    obtain ⟨v15, hv15, e15_0, e15_1, e15_2, e15_3, e15_4, rfl, hF15⟩ := hI.have 15 _ 51 (.elem (keyNum l ^ expo (b % 256 :: b / 256 % 256 :: List.replicate 30 0))) rfl rfl rfl rfl
    obtain ⟨v16, hv16, e16_0, e16_1, e16_2, e16_3, e16_4, rfl, hF16⟩ := hI.have 16 _ 52 (.elem ((keyNum l ^ expo (a % 256 :: a / 256 % 256 :: List.replicate 30 0)) * (keyNum l ^ expo (b % 256 :: b / 256 % 256 :: List.replicate 30 0)))) rfl rfl rfl rfl
    obtain ⟨v17, hv17, b17, rfl, hn17, hb17⟩ := hI.have 17 _ 11 (.new 33 #[.int .u64 0, .int .u64 0, .int .u64 0, .int .u64 0, .int .u64 0]) rfl rfl rfl rfl
    have hupd := hI.upd
    have ha := hI.act [(36, .agg #[.int .u64 x0, .int .u64 x1, .int .u64 x2, .int .u64 x3, .int .u64 x4]), (37, .int .u16 a), (38, .int .u8 (a % 256)), (39, .int .u16 a), (40, .int .u16 (a / 256)), (41, .int .u8 (a / 256 % 256)), (42, .agg (numsA .u8 (a % 256 :: a / 256 % 256 :: List.replicate 30 0))), (43, .agg #[.int .u64 e7_0, .int .u64 e7_1, .int .u64 e7_2, .int .u64 e7_3, .int .u64 e7_4]), (44, .agg #[.int .u64 x0, .int .u64 x1, .int .u64 x2, .int .u64 x3, .int .u64 x4]), (45, .int .u16 b), (46, .int .u8 (b % 256)), (47, .int .u16 b), (48, .int .u16 (b / 256)), (49, .int .u8 (b / 256 % 256)), (50, .agg (numsA .u8 (b % 256 :: b / 256 % 256 :: List.replicate 30 0))), (51, .agg #[.int .u64 e15_0, .int .u64 e15_1, .int .u64 e15_2, .int .u64 e15_3, .int .u64 e15_4]), (52, .agg #[.int .u64 e16_0, .int .u64 e16_1, .int .u64 e16_2, .int .u64 e16_3, .int .u64 e16_4]), (11, .pointer (some ⟨b17, 0, none⟩))] (by simp [hv0, hv1, hv2, hv3, hv4, hv5, hv6, hv7, hv8, hv9, hv10, hv11, hv12, hv13, hv14, hv15, hv16, hv17]) (by kernel_rfl)
    clear hI hv0 hv1 hv2 hv3 hv4 hv5 hv6 hv7 hv8 hv9 hv10 hv11 hv12 hv13 hv14 hv15 hv16 hv17
    subst ha
    simp only [List.foldl_cons, List.foldl_nil, List.setIfInBounds_toArray, List.set_cons_zero, List.set_cons_succ]
    have hf0 : left #[true, true, true, true, true, true, true, true, true, true, true, true, true, true, true, true, true, true, false] 19 = 1 := by kernel_rfl
    have hf1 : left #[true, true, true, true, true, true, true, true, true, true, true, true, true, true, true, true, true, true, false] 19 ≤ fuel := hf
    obtain ⟨fu, rfl⟩ : ∃ fu, fuel = fu + 1 := ⟨fuel - 1, by omega⟩
    clear hf hf0 hf1
    refine wpAny_ready (rs := [18]) (by kernel_rfl) (by simp) (AllReady.cons rfl (fun K hK => ?_) AllReady.nil)
    refine step_storeBlk2 rfl 33 (.tmp 11) (.tmp 52) rfl b17 0 5 rfl #[.int .u64 e16_0, .int .u64 e16_1, .int .u64 e16_2, .int .u64 e16_3, .int .u64 e16_4] rfl 33 #[.int .u64 0, .int .u64 0, .int .u64 0, .int .u64 0, .int .u64 0] hb17 info28 rfl (by simp) (one5 _ _ _ _ _) ?_
    intro ws0 hs0 hus0 _
    rw [splice_all _ _ 5 rfl rfl] at hs0
    refine hK _ _ ?_
    clear hK K
    dsimp only [Act.put]
    have hw0 := hupd.step hus0 (fun i hi h => by have := hn17; simp only [World.size_drew] at *; omega)
    refine wpAny_done (by kernel_rfl) ?_ _
    have HFr := Lib.hid hF16
    have HbR := Lib.hid hs0
    have Hu6 := Lib.hid (Hu5.out.drew.trans hw0)
    have Hbx6 := Lib.hid (hw0.blk (show Blk _ _ _ _ from Hx5.out) (fun h => h))
    have Hby6 := Lib.hid (hw0.blk (show Blk _ _ _ _ from Hy5.out) (fun h => h))
    clear hF16 hF15 hF7 hs0 hw0 hupd hb17 hus0 hn17 Hx5 Hy5 Hu5
    generalize b17 = bR at *
    generalize e16_0 = r0 at *
    generalize e16_1 = r1 at *
    generalize e16_2 = r2 at *
    generalize e16_3 = r3 at *
    generalize e16_4 = r4 at *
    obtain ⟨c, Hc⟩ : ∃ c : Int, Hid (c = pp) := ⟨_, rfl⟩
    have hzn := zeroN_run
    go_wp2_with fail
    refine (rPrime_any _).mono ?_
    rintro e w6 ⟨he, hu⟩
    rw [show numsA .u64 (digits 65536 16 pp) = numN c from by rw [Hc.out]; rfl] at he
    subst he
    have Hx7 := Lib.hid (hu.blk Hbx6.out (fun h => h))
    have Hy7 := Lib.hid (hu.blk Hby6.out (fun h => h))
    have Hr7 := Lib.hid (hu.blk HbR.out (fun h => h))
    have Hu7 := Lib.hid (Hu6.out.trans hu)
    have HNc := Lib.hid (numN_size c)
    have lx := Hx7.out.lt
    have ly := Hy7.out.lt
    have lr := Hr7.out.lt
    clear hu Hbx6 Hby6 HbR Hu6
    go_wp2_with (refine wpList_storeBlk2 rfl 29 _ _ rfl w6.heap.size 0 16 rfl (numN c) rfl 29 zeroN (Blk.at1 w6 _ _) sizeNum HNc.out (by rw [zeroN_size]; omega) (numsA_one _ _) ?_; intro w7 hb7 hu7 hz7; rw [splice_all _ _ 16 zeroN_size HNc.out] at hb7; have Hz7 : Hid (w7.heap.size = w6.heap.size + 1) := (by show _ = _; simpa using hz7); have Hn8 := Lib.hid hb7; have Hx8 := Lib.hid (hu7.blk (Hx7.out.alloc _) (Nat.ne_of_lt lx)); have Hy8 := Lib.hid (hu7.blk (Hy7.out.alloc _) (Nat.ne_of_lt ly)); have Hr8 := Lib.hid (hu7.blk (Hr7.out.alloc _) (Nat.ne_of_lt lr)); have Hu8 := Lib.hid ((Hu7.out.alloc _).step hu7 (fun i hi h => (by have := Hu7.out.size; omega))); clear hb7 hu7 hz7)
    have hge := Hu7.out.size
    have HR : Hid (ExpRel w (w7.alloc (.cells zeroK 23)) w7.heap.size (fillTo (halves (digits 65536 16 c)) 32 (2 * 0)) [(w6.heap.size, 29, numN c), (w2.heap.size, 33, #[.int .u64 x0, .int .u64 x1, .int .u64 x2, .int .u64 x3, .int .u64 x4]), (w4.heap.size, 33, #[.int .u64 y0, .int .u64 y1, .int .u64 y2, .int .u64 y3, .int .u64 y4]), (bR, 33, #[.int .u64 r0, .int .u64 r1, .int .u64 r2, .int .u64 r3, .int .u64 r4])]) := by
      refine ⟨Hu8.out.alloc _, Blk.at1 w7 _ _, fillTo_length _ _ _, by have := Hz7.out; omega, ?_⟩
      intro g hg
      simp only [List.mem_cons, List.not_mem_nil, or_false] at hg
      rcases hg with rfl | rfl | rfl | rfl
      · exact ⟨Hn8.out.alloc _, Nat.ne_of_lt Hn8.out.lt⟩
      · exact ⟨Hx8.out.alloc _, Nat.ne_of_lt Hx8.out.lt⟩
      · exact ⟨Hy8.out.alloc _, Nat.ne_of_lt Hy8.out.lt⟩
      · exact ⟨Hr8.out.alloc _, Nat.ne_of_lt Hr8.out.lt⟩
    have HG := Lib.hid (fun j => (digs16 c).get (B := 65536) (by omega) j)
    clear Hn8 Hx8 Hy8 Hr8 Hu8 Hx7 Hy7 Hr7 Hu7 lx ly lr hge
    go_loopw [54] (fun i wr => ∃ k : Nat, k ≤ 16 ∧ i = .int .i64 k ∧ ExpRel w wr w7.heap.size (fillTo (halves (digits 65536 16 c)) 32 (2 * k)) [(w6.heap.size, 29, numN c), (w2.heap.size, 33, #[.int .u64 x0, .int .u64 x1, .int .u64 x2, .int .u64 x3, .int .u64 x4]), (w4.heap.size, 33, #[.int .u64 y0, .int .u64 y1, .int .u64 y2, .int .u64 y3, .int .u64 y4]), (bR, 33, #[.int .u64 r0, .int .u64 r1, .int .u64 r2, .int .u64 r3, .int .u64 r4])]) (fun i _ => 16 - (intOf i).toNat)
    case atStart => exact ⟨0, by omega, rfl, HR.out⟩
    case round =>
      clear HR
      obtain ⟨k, hk, rfl, hrel⟩ := hrel
      have hfr := hrel.out.frozen
      by_cases hlt : k < 16
      · have hkb := (hrel.oth _ (List.mem_cons_self ..)).1
        have hc1 := hrel.cell (2 * k) (by omega)
        have hc2 := hrel.cell (2 * k + 1) (by omega)
        have Hrel := Lib.hid hrel
        have ne1 : w6.heap.size ≠ w7.heap.size := by have := Hz7.out; omega
        have ne2 : w7.heap.size ≠ w6.heap.size := by have := Hz7.out; omega
        have c1 : wr.cell? ⟨w6.heap.size, k, none⟩ = some (.int .u64 ((digits 65536 16 c).getD k 0)) := by rw [hkb.cell]; unfold numN; rw [numsA_get _ _ _ (by rw [digits_length]; exact hlt)]
        have c3 : ∀ v, (wr.setCell ⟨w7.heap.size, 2 * k, none⟩ v).cell? ⟨w6.heap.size, k, none⟩ = some (.int .u64 ((digits 65536 16 c).getD k 0)) := fun v => by rw [(hkb.setOther (show w6.heap.size ≠ (⟨w7.heap.size, 2 * k, none⟩ : Addr).block from ne1) v).cell]; unfold numN; rw [numsA_get _ _ _ (by rw [digits_length]; exact hlt)]
        have g1 := HG.out k
        have He := Lib.hid (halves_even (digits 65536 16 c) k)
        have Ho := Lib.hid (halves_odd (digits 65536 16 c) k)
        generalize (digits 65536 16 c).getD k 0 = x at *
        clear hrel hkb
        go_wp2
        go_region
        all_goals go_wp2
        refine ⟨⟨k + 1, by omega, by go_num, ?_⟩, by simp [intOf]; omega⟩
        have := (Hrel.out.set (2 * k) (halves (digits 65536 16 c) (2 * k))).set (2 * k + 1) (halves (digits 65536 16 c) (2 * k + 1))
        rw [fillTo_succ, fillTo_succ, He.out, Ho.out] at this
        rw [show 2 * (k + 1) = 2 * k + 1 + 1 by omega]
        exact ⟨this.upd.drew, this.out, this.len, this.ge, this.oth⟩
      · obtain rfl : k = 16 := by omega
        have hd16 : decide (((16 : Nat) : Int) < 16) = false := by decide
        have hx9 := (hrel.oth _ (List.mem_cons_of_mem _ (List.mem_cons_self ..))).1
        have hy9 := (hrel.oth _ (List.mem_cons_of_mem _ (List.mem_cons_of_mem _ (List.mem_cons_self ..)))).1
        have hr9 := (hrel.oth _ (List.mem_cons_of_mem _ (List.mem_cons_of_mem _ (List.mem_cons_of_mem _ (List.mem_cons_self ..))))).1
        have hk9 := hrel.out
        rw [show 2 * 16 = 32 from rfl, halves_math c (by rw [Hc.out]; decide) (by rw [Hc.out]; decide)] at hk9
        have Hx9 := Lib.hid hx9
        have Hy9 := Lib.hid hy9
        have Hr9 := Lib.hid hr9
        have Hk9 := Lib.hid hk9
        have Hu9 := Lib.hid hrel.upd
        have HKs : Hid ((numsA .u8 (digits 256 32 c)).size = 32) := by show _ = _; rw [numsA_size, digits_length]
        have He1 : Hid (decide ((keyNum l ^ expo s) % pp = (((keyNum l ^ expo (a % 256 :: a / 256 % 256 :: List.replicate 30 0)) * (keyNum l ^ expo (b % 256 :: b / 256 % 256 :: List.replicate 30 0)))) % pp) = true) := by
          refine decide_eq_true ((cong_iff _ _).1 ?_)
          rw [Hes.out, expo_two, expo_two]
          exact cong_sum _ _ _ _ (by omega)
        have He2 : Hid (decide ((keyNum l ^ expo (digits 256 32 c)) % pp = keyNum l % pp) = true) := by
          refine decide_eq_true ((cong_iff _ _).1 (cong_prime _ _ ?_))
          rw [dig_digits (by omega), Hc.out]
          decide +kernel
        clear hrel hx9 hy9 hr9 hk9
        go_wp2_with fail
        refine wp_region_slots #[true, true, true, true, true, true, true, true, true, true, true] ([.val (.agg #[.int .u64 y0, .int .u64 y1, .int .u64 y2, .int .u64 y3, .int .u64 y4]), .val (.agg #[.int .u64 r0, .int .u64 r1, .int .u64 r2, .int .u64 r3, .int .u64 r4]), .val (.bool true), .val (.bool true), .val (.agg #[.int .u64 x0, .int .u64 x1, .int .u64 x2, .int .u64 x3, .int .u64 x4]), .val (.agg (numsA .u8 (digits 256 32 c))), .elem (keyNum l ^ expo (digits 256 32 c)), .val (.agg #[.int .u64 x0, .int .u64 x1, .int .u64 x2, .int .u64 x3, .int .u64 x4]), .val (.bool true), .val (.bool true), .val (.bool true)] : List SP) (by kernel_rfl) (by kernel_rfl) (by kernel_rfl) ?_ ?_
        · intro i o listed an wn ho hls hst hun hdep hI K' hK'
          have hi : i < 11 := by
            have := idx_lt ho; simp at this; omega
          have hcase : i = 0 ∨ i = 1 ∨ i = 2 ∨ i = 3 ∨ i = 4 ∨ i = 5 ∨ i = 6 ∨ i = 7 ∨ i = 8 ∨ i = 9 ∨ i = 10 := by omega
          rcases hcase with rfl | rfl | rfl | rfl | rfl | rfl | rfl | rfl | rfl | rfl | rfl
          · obtain rfl := Option.some.inj ho
            exact hI.stepLoad (by kernel_rfl) hls rfl rfl rfl 33 10 rfl (by kernel_rfl) (w4.heap.size) 5 rfl 33 (#[.int .u64 y0, .int .u64 y1, .int .u64 y2, .int .u64 y3, .int .u64 y4]) Hy9.out _ Try.underlying33 rfl info28 rfl rfl rfl hK'
          · obtain rfl := Option.some.inj ho
            exact hI.stepLoad (by kernel_rfl) hls rfl rfl rfl 33 11 rfl (by kernel_rfl) (bR) 5 rfl 33 (#[.int .u64 r0, .int .u64 r1, .int .u64 r2, .int .u64 r3, .int .u64 r4]) Hr9.out _ Try.underlying33 rfl info28 rfl rfl rfl hK'
          · obtain rfl := Option.some.inj ho
            obtain ⟨vp, hvp, hsp⟩ := hI.have 0 _ 74 (.val (.agg #[.int .u64 y0, .int .u64 y1, .int .u64 y2, .int .u64 y3, .int .u64 y4])) rfl rfl rfl (hdep ⟨0, .data⟩ (by simp) rfl)
            obtain rfl := hsp
            obtain ⟨vq, hvq, hsq⟩ := hI.have 1 _ 75 (.val (.agg #[.int .u64 r0, .int .u64 r1, .int .u64 r2, .int .u64 r3, .int .u64 r4])) rfl rfl rfl (hdep ⟨1, .data⟩ (by simp) rfl)
            obtain rfl := hsq
            exact hI.stepCall (by kernel_rfl) hls rfl rfl rfl 20 #[.tmp 74, .tmp 75] _ rfl #[.agg #[.int .u64 y0, .int .u64 y1, .int .u64 y2, .int .u64 y3, .int .u64 y4], .agg #[.int .u64 r0, .int .u64 r1, .int .u64 r2, .int .u64 r3, .int .u64 r4]] (by simp [eval_of hvp, eval_of hvq]) enterEqual (.val (.bool true)) rfl rfl ((equal_any y0 y1 y2 y3 y4 r0 r1 r2 r3 r4 (keyNum l ^ expo s) ((keyNum l ^ expo (a % 256 :: a / 256 % 256 :: List.replicate 30 0)) * (keyNum l ^ expo (b % 256 :: b / 256 % 256 :: List.replicate 30 0))) _ HFy.out HFr.out).mono fun _ _ h => ⟨_, h.1.trans (congrArg (fun b => Ending.returned (.bool b)) (He1.out)), rfl, h.2⟩) hK'
          · obtain rfl := Option.some.inj ho
            obtain ⟨vp, hvp, hsp⟩ := hI.have 2 _ 76 (.val (.bool true)) rfl rfl rfl (hdep ⟨2, .data⟩ (by simp) rfl)
            obtain rfl := hsp
            exact hI.stepPure (by kernel_rfl) hls rfl rfl rfl (.bool true) (by simp [execOp, eval_of hvp]) rfl rfl hK'
          · obtain rfl := Option.some.inj ho
            obtain ⟨vg, hvg, hsg⟩ := hI.have 3 _ 77 (.val (.bool true)) rfl rfl rfl (hdep ⟨3, .guard⟩ (by simp) rfl)
            obtain rfl := hsg
            exact hI.stepLoad (by kernel_rfl) hls rfl (wanted_of rfl rfl rfl hvg) rfl 33 7 rfl (by kernel_rfl) (w2.heap.size) 5 rfl 33 (#[.int .u64 x0, .int .u64 x1, .int .u64 x2, .int .u64 x3, .int .u64 x4]) Hx9.out _ Try.underlying33 rfl info28 rfl rfl rfl hK'
          · obtain rfl := Option.some.inj ho
            obtain ⟨vg, hvg, hsg⟩ := hI.have 3 _ 77 (.val (.bool true)) rfl rfl rfl (hdep ⟨3, .guard⟩ (by simp) rfl)
            obtain rfl := hsg
            exact hI.stepLoad (by kernel_rfl) hls rfl (wanted_of rfl rfl rfl hvg) rfl 23 13 rfl (by kernel_rfl) (w7.heap.size) 32 rfl 23 (numsA .u8 (digits 256 32 c)) Hk9.out _ Try.underlying23 rfl sizeKey HKs.out rfl rfl hK'
          · obtain rfl := Option.some.inj ho
            obtain ⟨vg, hvg, hsg⟩ := hI.have 3 _ 77 (.val (.bool true)) rfl rfl rfl (hdep ⟨3, .guard⟩ (by simp) rfl)
            obtain rfl := hsg
            obtain ⟨vp, hvp, hsp⟩ := hI.have 4 _ 78 (.val (.agg #[.int .u64 x0, .int .u64 x1, .int .u64 x2, .int .u64 x3, .int .u64 x4])) rfl rfl rfl (hdep ⟨4, .data⟩ (by simp) rfl)
            obtain rfl := hsp
            obtain ⟨vq, hvq, hsq⟩ := hI.have 5 _ 79 (.val (.agg (numsA .u8 (digits 256 32 c)))) rfl rfl rfl (hdep ⟨5, .data⟩ (by simp) rfl)
            obtain rfl := hsq
            exact hI.stepCall (by kernel_rfl) hls rfl (wanted_of rfl rfl rfl hvg) rfl 23 #[.tmp 78, .tmp 79] _ rfl #[.agg #[.int .u64 x0, .int .u64 x1, .int .u64 x2, .int .u64 x3, .int .u64 x4], .agg (numsA .u8 (digits 256 32 c))] (by simp [eval_of hvp, eval_of hvq]) enterPower (.elem (keyNum l ^ expo (digits 256 32 c))) rfl rfl ((power_any x0 x1 x2 x3 x4 (keyNum l) (digits 256 32 c) _ HFx.out (digits_length _ _ _) (digits_digs (by omega) _ _)).mono fun _ _ h => h.sp) hK'
          · obtain rfl := Option.some.inj ho
            obtain ⟨vg, hvg, hsg⟩ := hI.have 3 _ 77 (.val (.bool true)) rfl rfl rfl (hdep ⟨3, .guard⟩ (by simp) rfl)
            obtain rfl := hsg
            exact hI.stepLoad (by kernel_rfl) hls rfl (wanted_of rfl rfl rfl hvg) rfl 33 7 rfl (by kernel_rfl) (w2.heap.size) 5 rfl 33 (#[.int .u64 x0, .int .u64 x1, .int .u64 x2, .int .u64 x3, .int .u64 x4]) Hx9.out _ Try.underlying33 rfl info28 rfl rfl rfl hK'
          · obtain rfl := Option.some.inj ho
            obtain ⟨vg, hvg, hsg⟩ := hI.have 3 _ 77 (.val (.bool true)) rfl rfl rfl (hdep ⟨3, .guard⟩ (by simp) rfl)
            obtain rfl := hsg
            obtain ⟨vp, hvp, p0, p1, p2, p3, p4, rfl, hFp⟩ := hI.have 6 _ 80 (.elem (keyNum l ^ expo (digits 256 32 c))) rfl rfl rfl (hdep ⟨6, .data⟩ (by simp) rfl)
            obtain ⟨vq, hvq, hsq⟩ := hI.have 7 _ 81 (.val (.agg #[.int .u64 x0, .int .u64 x1, .int .u64 x2, .int .u64 x3, .int .u64 x4])) rfl rfl rfl (hdep ⟨7, .data⟩ (by simp) rfl)
            obtain rfl := hsq
            exact hI.stepCall (by kernel_rfl) hls rfl (wanted_of rfl rfl rfl hvg) rfl 20 #[.tmp 80, .tmp 81] _ rfl #[.agg #[.int .u64 p0, .int .u64 p1, .int .u64 p2, .int .u64 p3, .int .u64 p4], .agg #[.int .u64 x0, .int .u64 x1, .int .u64 x2, .int .u64 x3, .int .u64 x4]] (by simp [eval_of hvp, eval_of hvq]) enterEqual (.val (.bool true)) rfl rfl ((equal_any p0 p1 p2 p3 p4 x0 x1 x2 x3 x4 (keyNum l ^ expo (digits 256 32 c)) (keyNum l) _ hFp HFx.out).mono fun _ _ h => ⟨_, h.1.trans (congrArg (fun b => Ending.returned (.bool b)) (He2.out)), rfl, h.2⟩) hK'
          · obtain rfl := Option.some.inj ho
            obtain ⟨vp, hvp, hsp⟩ := hI.have 3 _ 77 (.val (.bool true)) rfl rfl rfl (hdep ⟨3, .data⟩ (by simp) rfl)
            obtain rfl := hsp
            obtain ⟨vq, hvq, hsq⟩ := hI.have 8 _ 82 (.val (.bool true)) rfl rfl rfl (hdep ⟨8, .data⟩ (by simp) rfl)
            obtain rfl := hsq
            exact hI.stepPure (by kernel_rfl) hls rfl rfl rfl (.bool true) (by simp [execOp, eval_of hvp, eval_of hvq, asBool]) rfl rfl hK'
          · obtain rfl := Option.some.inj ho
            obtain ⟨vp, hvp, hsp⟩ := hI.have 9 _ 83 (.val (.bool true)) rfl rfl rfl (hdep ⟨9, .data⟩ (by simp) rfl)
            obtain rfl := hsp
            exact hI.stepPure (by kernel_rfl) hls rfl rfl rfl (.bool true) (by simp [execOp, eval_of hvp]) rfl rfl hK'
        · intro fuel an wn hf hI
          obtain ⟨vz0, hvz0, hsz0⟩ := hI.have 0 _ 74 (.val (.agg #[.int .u64 y0, .int .u64 y1, .int .u64 y2, .int .u64 y3, .int .u64 y4])) rfl rfl rfl rfl
          obtain rfl := hsz0
          obtain ⟨vz1, hvz1, hsz1⟩ := hI.have 1 _ 75 (.val (.agg #[.int .u64 r0, .int .u64 r1, .int .u64 r2, .int .u64 r3, .int .u64 r4])) rfl rfl rfl rfl
          obtain rfl := hsz1
          obtain ⟨vz2, hvz2, hsz2⟩ := hI.have 2 _ 76 (.val (.bool true)) rfl rfl rfl rfl
          obtain rfl := hsz2
          obtain ⟨vz3, hvz3, hsz3⟩ := hI.have 3 _ 77 (.val (.bool true)) rfl rfl rfl rfl
          obtain rfl := hsz3
          obtain ⟨vz4, hvz4, hsz4⟩ := hI.have 4 _ 78 (.val (.agg #[.int .u64 x0, .int .u64 x1, .int .u64 x2, .int .u64 x3, .int .u64 x4])) rfl rfl rfl rfl
          obtain rfl := hsz4
          obtain ⟨vz5, hvz5, hsz5⟩ := hI.have 5 _ 79 (.val (.agg (numsA .u8 (digits 256 32 c)))) rfl rfl rfl rfl
          obtain rfl := hsz5
          obtain ⟨vz6, hvz6, ez6_0, ez6_1, ez6_2, ez6_3, ez6_4, rfl, hFz6⟩ := hI.have 6 _ 80 (.elem (keyNum l ^ expo (digits 256 32 c))) rfl rfl rfl rfl
          obtain ⟨vz7, hvz7, hsz7⟩ := hI.have 7 _ 81 (.val (.agg #[.int .u64 x0, .int .u64 x1, .int .u64 x2, .int .u64 x3, .int .u64 x4])) rfl rfl rfl rfl
          obtain rfl := hsz7
          obtain ⟨vz8, hvz8, hsz8⟩ := hI.have 8 _ 82 (.val (.bool true)) rfl rfl rfl rfl
          obtain rfl := hsz8
          obtain ⟨vz9, hvz9, hsz9⟩ := hI.have 9 _ 83 (.val (.bool true)) rfl rfl rfl rfl
          obtain rfl := hsz9
          obtain ⟨vz10, hvz10, hsz10⟩ := hI.have 10 _ 6 (.val (.bool true)) rfl rfl rfl rfl
          obtain rfl := hsz10
          have hupd := hI.upd
          have ha := hI.act [(74, .agg #[.int .u64 y0, .int .u64 y1, .int .u64 y2, .int .u64 y3, .int .u64 y4]), (75, .agg #[.int .u64 r0, .int .u64 r1, .int .u64 r2, .int .u64 r3, .int .u64 r4]), (76, .bool true), (77, .bool true), (78, .agg #[.int .u64 x0, .int .u64 x1, .int .u64 x2, .int .u64 x3, .int .u64 x4]), (79, .agg (numsA .u8 (digits 256 32 c))), (80, .agg #[.int .u64 ez6_0, .int .u64 ez6_1, .int .u64 ez6_2, .int .u64 ez6_3, .int .u64 ez6_4]), (81, .agg #[.int .u64 x0, .int .u64 x1, .int .u64 x2, .int .u64 x3, .int .u64 x4]), (82, .bool true), (83, .bool true), (6, .bool true)] (by simp [hvz0, hvz1, hvz2, hvz3, hvz4, hvz5, hvz6, hvz7, hvz8, hvz9, hvz10]) (by kernel_rfl)
          clear hI hvz0 hvz1 hvz2 hvz3 hvz4 hvz5 hvz6 hvz7 hvz8 hvz9 hvz10
          subst ha
          simp only [List.foldl_cons, List.foldl_nil, List.setIfInBounds_toArray, List.set_cons_zero, List.set_cons_succ]
          refine wpAny_done (by kernel_rfl) ?_ _
          go_wp2
          go_ret
          exact ⟨rfl, Hu9.out.drew.trans hupd⟩
end Go.Proofs.Ytaejngaohkalcaa
