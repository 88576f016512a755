/-
  The walk of FieldBytes.
-/
import Derived.Test.YtaejngaohkalcaaRefE
namespace Go.Proofs.Ytaejngaohkalcaa
open Go.RowKit

theorem keyNum_bd (l : List Int) : 0 ≤ keyNum l ∧ keyNum l < 115792089237316195423570985008687907853269984665640564039457584007913129639936 := by
  unfold keyNum
  omega
theorem digits_zero_iff (n : Int) (h0 : 0 ≤ n) (h1 : n < 115792089237316195423570985008687907853269984665640564039457584007913129639936) : decide (digits 256 32 n = List.replicate 32 0) = decide (n = 0) := by
  rw [decide_eq_decide]
  constructor
  · intro h
    have e : dig 256 (digits 256 32 n) = n := by
      rw [dig_digits (by omega), show (256 : Int) ^ 32 = 115792089237316195423570985008687907853269984665640564039457584007913129639936 by decide]
      omega
    rw [h] at e
    have : dig 256 (List.replicate 32 0) = 0 := by decide
    omega
  · intro h
    subst h
    decide
theorem digits_first (n : Int) : (digits 256 32 n).getD 0 0 = n % 256 := rfl
set_option maxRecDepth 100000 in
set_option maxHeartbeats 4000000 in
theorem fieldBytes_any (l : List Int) (n : Int) (w : World) (hl : l.length = 32) (hd : Digs 256 l) (hn : 0 ≤ n ∧ n < 4294967296) :
    Calls Try.prog 3 #[.agg (numsA .u8 l), .int .u32 n] w fun e w' => e = .returned (.bool true) ∧ Upd (fun _ => False) w w' := by
  have hz := zeroK_run
  have Hl := Lib.hid hl
  have Hd := Lib.hid hd
  obtain ⟨hn0, hn1⟩ := hn
  have HA : Hid ((numsA .u8 l).size = 32) := by show _ = _; rw [numsA_size]; exact hl
  clear hl hd
  go_enter Try.func3, Try.ntmps3
  go_wp2_with fail
  refine (counts_any _).mono ?_
  rintro e w1 ⟨rfl, hu⟩
  have Hk := Lib.hid (hu.blk (Blk.at1 w (numsA .u8 l) 23) (fun h => h))
  have Hu1 := Lib.hid (((Upd.refl (fun _ => False) w).alloc _).trans hu)
  clear hu
  go_wp2_with (refine wpList_loadBlk rfl 23 _ rfl w.heap.size 0 32 rfl 23 (numsA .u8 l) _ Hk.out Try.underlying23 rfl sizeKey (by rw [HA.out]; omega) ?_; rw [extract_all _ _ HA.out])
  refine (rOf_any l _ Hl.out Hd.out).mono ?_
  rintro e w2 ⟨rfl, hu⟩
  have Hk2 := Lib.hid (hu.blk Hk.out (fun h => h))
  have Hu2 := Lib.hid (Hu1.out.trans hu)
  clear hu Hk Hu1
  go_wp2_with fail
  refine (rBytes_any (keyNum l) _ (keyNum_bd l).1 (keyNum_bd l).2).mono ?_
  rintro e w3 ⟨rfl, hu⟩
  have Hk3 := Lib.hid (hu.blk Hk2.out (fun h => h))
  have Hu3 := Lib.hid (Hu2.out.trans hu)
  have hc0 := Int.emod_nonneg (keyNum l) (b := pp) (by decide)
  have hc1 : keyNum l % pp < 115792089237316195423570985008687907853269984665640564039457584007913129639936 := by have := Int.emod_lt_of_pos (keyNum l) pp_pos; unfold pp at *; omega
  have HZ := Lib.hid (digits_zero_iff (keyNum l % pp) hc0 hc1)
  have HW : Hid ((numsA .u8 (digits 256 32 (keyNum l % pp))).size = 32) := by show _ = _; rw [numsA_size, digits_length]
  clear hu Hk2 Hu2 hc0 hc1
  have Hk3a := Lib.hid (Hk3.out.alloc (.cells zeroK 23))
  go_wp2_with (first
    | (refine wpList_storeBlk2 rfl 23 _ _ rfl w3.heap.size 0 32 rfl (numsA .u8 (digits 256 32 (keyNum l % pp))) rfl 23 zeroK (Blk.at1 w3 _ _) sizeKey HW.out (by rw [zeroK_size]; omega) (numsA_one _ _) ?_; intro w4 hb4 hu4 hz4; rw [splice_all _ _ 32 zeroK_size HW.out] at hb4; have Hw4 := Lib.hid hb4; have Hk4 := Lib.hid (hu4.blk Hk3a.out (fun e => Nat.lt_irrefl _ (Nat.lt_of_lt_of_le Hk3.out.lt (Nat.le_of_eq e.symm)))); have Hu4 := Lib.hid ((Hu3.out.alloc _).step hu4 (fun i hi h => (by have := Hu3.out.size; omega))); clear hb4 hu4 hz4)
    | (refine wpList_loadBlk rfl 23 _ rfl w.heap.size 0 32 rfl 23 (numsA .u8 l) _ Hk4.out Try.underlying23 rfl sizeKey (by rw [HA.out]; omega) ?_; rw [extract_all _ _ HA.out]))
  refine (of_any l _ Hl.out Hd.out).mono ?_
  rintro e w5 ⟨x0, x1, x2, x3, x4, hFx, rfl, hu⟩
  have Hk5 := Lib.hid (hu.blk Hk4.out (fun h => h))
  have Hw5 := Lib.hid (hu.blk Hw4.out (fun h => h))
  have Hu5 := Lib.hid (Hu4.out.trans hu)
  have HFx := Lib.hid hFx
  clear hu hFx Hk3 Hk3a Hk4 Hu3 Hu4 Hw4
  go_wp2
  have hg := guardKey
  have hund := Try.underlying23
  have hlen : (cellsOf .u8 (digits 256 32 (keyNum l % pp))).length = 32 := by rw [cellsOf_length, digits_length]
  have hsz := sizeKey
  rw [← hlen] at hsz
  have hone := cellsOf_one .u8 (digits 256 32 (keyNum l % pp))
  have harr := cellsOf_toArray .u8 (digits 256 32 (keyNum l % pp))
  have e5 : ∀ w, (Op.equalIn 10000 23 (.agg (numsA .u8 (digits 256 32 (keyNum l % pp)))) (.agg zeroK)).run Try.prog w = .ok (decide (keyNum l % pp = 0)) w := fun w => by
    rw [← HZ.out]
    exact eqKey _ _ (digits_length _ _ _) (by simp) w
  have hr := (Hw5.out.alloc (.cells #[.int .u64 x0, .int .u64 x1, .int .u64 x2, .int .u64 x3, .int .u64 x4] 33)).range
  rw [numsA_toList] at hr
  have c0 : (w5.alloc (.cells #[.int .u64 x0, .int .u64 x1, .int .u64 x2, .int .u64 x3, .int .u64 x4] 33)).cell? ⟨w3.heap.size, 0, none⟩ = some (.int .u8 (keyNum l % pp % 256)) := ((Hw5.out.alloc _).cell 0).trans (numsA_get .u8 (digits 256 32 (keyNum l % pp)) 0 (by rw [digits_length]; omega))
  obtain ⟨bz, hbz⟩ : ∃ bz : Bool, bz = decide (keyNum l % pp = 0) := ⟨_, rfl⟩
  rw [← hbz] at e5
  have Hbz := Lib.hid hbz
  have hy0 : 0 ≤ keyNum l % pp % 256 := Int.emod_nonneg _ (by omega)
  have hy1 : keyNum l % pp % 256 < 256 := Int.emod_lt_of_pos _ (by omega)
  have Hyo : Hid (decide (keyNum l % pp % 256 % 2 = 1) = decide (keyNum l % pp % 2 = 1)) := by show _ = _; rw [decide_eq_decide]; omega
  generalize hy : keyNum l % pp % 256 = y at *
  have Hr := Lib.hid hr
  have Hc0 := Lib.hid c0
  clear hbz hy hr c0
  go_region_held3 (fun w' => w'.rangeAt w3.heap.size 0 (cellsOf .u8 (digits 256 32 (keyNum l % pp))) ∧ w'.cell? ⟨w3.heap.size, 0, none⟩ = some (.int .u8 y)) (first | exact ⟨(World.rangeAt_drew _ _ _ _).2 Hr.out, Hc0.out⟩ | go_keep_ranges) (fail)
  have Hbo : Hid ((y.tmod 2 == 1) = decide (keyNum l % pp % 2 = 1)) := by
    show _ = _
    rw [← Hyo.out, Int.tmod_eq_emod_of_nonneg hy0]
    rfl
  generalize (y.tmod 2 == 1) = bo at *
  have Hk6 := Lib.hid (Hk5.out.alloc (.cells #[.int .u64 x0, .int .u64 x1, .int .u64 x2, .int .u64 x3, .int .u64 x4] 33))
  have Hw6 := Lib.hid (Hw5.out.alloc (.cells #[.int .u64 x0, .int .u64 x1, .int .u64 x2, .int .u64 x3, .int .u64 x4] 33))
  have Hx6 := Lib.hid (Blk.at1 w5 #[.int .u64 x0, .int .u64 x1, .int .u64 x2, .int .u64 x3, .int .u64 x4] 33)
  have Hu6 := Lib.hid (Hu5.out.alloc (.cells #[.int .u64 x0, .int .u64 x1, .int .u64 x2, .int .u64 x3, .int .u64 x4] 33))
  clear hg hund hlen hsz hone harr e5 Hr Hc0 Hyo hy0 hy1 HZ Hk5 Hw5 Hu5
  go_wp2_with fail
  refine wp_region_slots #[true, true, true, true, true, true, true, true, true, true, true, true, true, true, true, true, true, true, true, true, true, true, true, true, true, true, true, true, true, true, true, true, true, true, true] ([.val (.agg #[.int .u64 x0, .int .u64 x1, .int .u64 x2, .int .u64 x3, .int .u64 x4]), .val (.agg (numsA .u8 (digits 256 32 ((keyNum l) % pp)))), .val (.agg (numsA .u8 (digits 256 32 (keyNum l % pp)))), .val (.bool true), .val (.bool true), .val (.agg (numsA .u8 l)), .val (.bool (canonB l)), .val (.agg (numsA .u8 (digits 256 32 (keyNum l % pp)))), .val (.agg (numsA .u8 l)), .val (.bool (canonB l)), .val (.bool true), .val (.bool true), .val (.bool true), .val (.agg #[.int .u64 x0, .int .u64 x1, .int .u64 x2, .int .u64 x3, .int .u64 x4]), .val (.bool bz), .val (.bool bz), .val (.bool true), .val (.bool true), .val (.bool true), .val (.agg #[.int .u64 x0, .int .u64 x1, .int .u64 x2, .int .u64 x3, .int .u64 x4]), .val (.bool bo), .val (.bool bo), .val (.bool true), .val (.bool true), .val (.bool true), .val (.int .u32 n), .elem (n), .val (.agg (numsA .u8 (digits 256 32 (n % pp)))), .val (.int .u32 n), .val (.int .u64 n), .val (.agg (numN n)), .val (.agg (numsA .u8 (digits 256 32 (n % pp)))), .val (.bool true), .val (.bool true), .val (.bool true)] : List SP) (by kernel_rfl) (by kernel_rfl) (by kernel_rfl) ?_ ?_
  · intro i o listed an wn ho hls hst hun hdep hI K' hK'
    have hi : i < 35 := by
      have := idx_lt ho; simp at this; omega
    have hcase : i = 0 ∨ i = 1 ∨ i = 2 ∨ i = 3 ∨ i = 4 ∨ i = 5 ∨ i = 6 ∨ i = 7 ∨ i = 8 ∨ i = 9 ∨ i = 10 ∨ i = 11 ∨ i = 12 ∨ i = 13 ∨ i = 14 ∨ i = 15 ∨ i = 16 ∨ i = 17 ∨ i = 18 ∨ i = 19 ∨ i = 20 ∨ i = 21 ∨ i = 22 ∨ i = 23 ∨ i = 24 ∨ i = 25 ∨ i = 26 ∨ i = 27 ∨ i = 28 ∨ i = 29 ∨ i = 30 ∨ i = 31 ∨ i = 32 ∨ i = 33 ∨ i = 34 := by omega
    rcases hcase with rfl | rfl | rfl | rfl | rfl | rfl | rfl | rfl | rfl | rfl | rfl | rfl | rfl | rfl | rfl | rfl | rfl | rfl | rfl | rfl | rfl | rfl | rfl | rfl | rfl | rfl | rfl | rfl | rfl | rfl | rfl | rfl | rfl | rfl | rfl
    · obtain rfl := Option.some.inj ho
      exact hI.stepLoad (by kernel_rfl) hls rfl rfl rfl 33 6 rfl (by kernel_rfl) (w5.heap.size) 5 rfl 33 (#[.int .u64 x0, .int .u64 x1, .int .u64 x2, .int .u64 x3, .int .u64 x4]) Hx6.out _ Try.underlying33 rfl info28 rfl rfl rfl hK'
    · obtain rfl := Option.some.inj ho
      obtain ⟨vp, hvp, hsp⟩ := hI.have 0 _ 23 (.val (.agg #[.int .u64 x0, .int .u64 x1, .int .u64 x2, .int .u64 x3, .int .u64 x4])) rfl rfl rfl (hdep ⟨0, .data⟩ (by simp) rfl)
      obtain rfl := hsp
      exact hI.stepCall (by kernel_rfl) hls rfl rfl rfl 11 #[.tmp 23] _ rfl #[.agg #[.int .u64 x0, .int .u64 x1, .int .u64 x2, .int .u64 x3, .int .u64 x4]] (by simp [eval_of hvp]) enterBytes (.val (.agg (numsA .u8 (digits 256 32 ((keyNum l) % pp))))) rfl rfl ((bytes_any x0 x1 x2 x3 x4 (keyNum l) _ HFx.out).mono fun _ _ h => ⟨_, h.1, rfl, h.2⟩) hK'
    · obtain rfl := Option.some.inj ho
      exact hI.stepLoad (by kernel_rfl) hls rfl rfl rfl 23 5 rfl (by kernel_rfl) (w3.heap.size) 32 rfl 23 (numsA .u8 (digits 256 32 (keyNum l % pp))) Hw6.out _ Try.underlying23 rfl sizeKey HW.out rfl rfl hK'
    · obtain rfl := Option.some.inj ho
      obtain ⟨vp, hvp, hsp⟩ := hI.have 1 _ 24 (.val (.agg (numsA .u8 (digits 256 32 ((keyNum l) % pp))))) rfl rfl rfl (hdep ⟨1, .data⟩ (by simp) rfl)
      obtain rfl := hsp
      obtain ⟨vq, hvq, hsq⟩ := hI.have 2 _ 25 (.val (.agg (numsA .u8 (digits 256 32 (keyNum l % pp))))) rfl rfl rfl (hdep ⟨2, .data⟩ (by simp) rfl)
      obtain rfl := hsq
      exact hI.stepPure (by kernel_rfl) hls rfl rfl rfl (.bool true) ((run_eqlKey rfl (eval_of hvp) (eval_of hvq) (digits_length _ _ _) (digits_length _ _ _) wn).trans (by simp)) rfl rfl hK'
    · obtain rfl := Option.some.inj ho
      obtain ⟨vp, hvp, hsp⟩ := hI.have 3 _ 26 (.val (.bool true)) rfl rfl rfl (hdep ⟨3, .data⟩ (by simp) rfl)
      obtain rfl := hsp
      exact hI.stepPure (by kernel_rfl) hls rfl rfl rfl (.bool true) (by simp [execOp, eval_of hvp]) rfl rfl hK'
    · obtain rfl := Option.some.inj ho
      obtain ⟨vg, hvg, hsg⟩ := hI.have 4 _ 27 (.val (.bool true)) rfl rfl rfl (hdep ⟨4, .guard⟩ (by simp) rfl)
      obtain rfl := hsg
      exact hI.stepLoad (by kernel_rfl) hls rfl (wanted_of rfl rfl rfl hvg) rfl 23 2 rfl (by kernel_rfl) (w.heap.size) 32 rfl 23 (numsA .u8 l) Hk6.out _ Try.underlying23 rfl sizeKey HA.out rfl rfl hK'
    · obtain rfl := Option.some.inj ho
      obtain ⟨vg, hvg, hsg⟩ := hI.have 4 _ 27 (.val (.bool true)) rfl rfl rfl (hdep ⟨4, .guard⟩ (by simp) rfl)
      obtain rfl := hsg
      obtain ⟨vp, hvp, hsp⟩ := hI.have 5 _ 28 (.val (.agg (numsA .u8 l))) rfl rfl rfl (hdep ⟨5, .data⟩ (by simp) rfl)
      obtain rfl := hsp
      exact hI.stepCall (by kernel_rfl) hls rfl (wanted_of rfl rfl rfl hvg) rfl 12 #[.tmp 28] _ rfl #[.agg (numsA .u8 l)] (by simp [eval_of hvp]) enterCanonical (.val (.bool (canonB l))) rfl rfl ((canonical_any l _ Hl.out Hd.out).mono fun _ _ h => ⟨_, h.1, rfl, h.2⟩) hK'
    · obtain rfl := Option.some.inj ho
      obtain ⟨vg, hvg, hsg⟩ := hI.have 4 _ 27 (.val (.bool true)) rfl rfl rfl (hdep ⟨4, .guard⟩ (by simp) rfl)
      obtain rfl := hsg
      exact hI.stepLoad (by kernel_rfl) hls rfl (wanted_of rfl rfl rfl hvg) rfl 23 5 rfl (by kernel_rfl) (w3.heap.size) 32 rfl 23 (numsA .u8 (digits 256 32 (keyNum l % pp))) Hw6.out _ Try.underlying23 rfl sizeKey HW.out rfl rfl hK'
    · obtain rfl := Option.some.inj ho
      obtain ⟨vg, hvg, hsg⟩ := hI.have 4 _ 27 (.val (.bool true)) rfl rfl rfl (hdep ⟨4, .guard⟩ (by simp) rfl)
      obtain rfl := hsg
      exact hI.stepLoad (by kernel_rfl) hls rfl (wanted_of rfl rfl rfl hvg) rfl 23 2 rfl (by kernel_rfl) (w.heap.size) 32 rfl 23 (numsA .u8 l) Hk6.out _ Try.underlying23 rfl sizeKey HA.out rfl rfl hK'
    · obtain rfl := Option.some.inj ho
      obtain ⟨vg, hvg, hsg⟩ := hI.have 4 _ 27 (.val (.bool true)) rfl rfl rfl (hdep ⟨4, .guard⟩ (by simp) rfl)
      obtain rfl := hsg
      obtain ⟨vp, hvp, hsp⟩ := hI.have 7 _ 30 (.val (.agg (numsA .u8 (digits 256 32 (keyNum l % pp))))) rfl rfl rfl (hdep ⟨7, .data⟩ (by simp) rfl)
      obtain rfl := hsp
      obtain ⟨vq, hvq, hsq⟩ := hI.have 8 _ 31 (.val (.agg (numsA .u8 l))) rfl rfl rfl (hdep ⟨8, .data⟩ (by simp) rfl)
      obtain rfl := hsq
      exact hI.stepPure (by kernel_rfl) hls rfl (wanted_of rfl rfl rfl hvg) rfl (.bool (canonB l)) (run_eqlKey rfl (eval_of hvp) (eval_of hvq) (digits_length _ _ _) (Hl.out) wn) rfl rfl hK'
    · obtain rfl := Option.some.inj ho
      obtain ⟨vg, hvg, hsg⟩ := hI.have 4 _ 27 (.val (.bool true)) rfl rfl rfl (hdep ⟨4, .guard⟩ (by simp) rfl)
      obtain rfl := hsg
      obtain ⟨vp, hvp, hsp⟩ := hI.have 6 _ 29 (.val (.bool (canonB l))) rfl rfl rfl (hdep ⟨6, .data⟩ (by simp) rfl)
      obtain rfl := hsp
      obtain ⟨vq, hvq, hsq⟩ := hI.have 9 _ 32 (.val (.bool (canonB l))) rfl rfl rfl (hdep ⟨9, .data⟩ (by simp) rfl)
      obtain rfl := hsq
      exact hI.stepPure (by kernel_rfl) hls rfl (wanted_of rfl rfl rfl hvg) rfl (.bool true) (run_eqlBool rfl (eval_of hvp) (eval_of hvq) wn) rfl rfl hK'
    · obtain rfl := Option.some.inj ho
      obtain ⟨vp, hvp, hsp⟩ := hI.have 4 _ 27 (.val (.bool true)) rfl rfl rfl (hdep ⟨4, .data⟩ (by simp) rfl)
      obtain rfl := hsp
      obtain ⟨vq, hvq, hsq⟩ := hI.have 10 _ 33 (.val (.bool true)) rfl rfl rfl (hdep ⟨10, .data⟩ (by simp) rfl)
      obtain rfl := hsq
      exact hI.stepPure (by kernel_rfl) hls rfl rfl rfl (.bool true) (by simp [execOp, eval_of hvp, eval_of hvq, asBool]) rfl rfl hK'
    · obtain rfl := Option.some.inj ho
      obtain ⟨vp, hvp, hsp⟩ := hI.have 11 _ 34 (.val (.bool true)) rfl rfl rfl (hdep ⟨11, .data⟩ (by simp) rfl)
      obtain rfl := hsp
      exact hI.stepPure (by kernel_rfl) hls rfl rfl rfl (.bool true) (by simp [execOp, eval_of hvp]) rfl rfl hK'
    · obtain rfl := Option.some.inj ho
      obtain ⟨vg, hvg, hsg⟩ := hI.have 12 _ 35 (.val (.bool true)) rfl rfl rfl (hdep ⟨12, .guard⟩ (by simp) rfl)
      obtain rfl := hsg
      exact hI.stepLoad (by kernel_rfl) hls rfl (wanted_of rfl rfl rfl hvg) rfl 33 6 rfl (by kernel_rfl) (w5.heap.size) 5 rfl 33 (#[.int .u64 x0, .int .u64 x1, .int .u64 x2, .int .u64 x3, .int .u64 x4]) Hx6.out _ Try.underlying33 rfl info28 rfl rfl rfl hK'
    · obtain rfl := Option.some.inj ho
      obtain ⟨vg, hvg, hsg⟩ := hI.have 12 _ 35 (.val (.bool true)) rfl rfl rfl (hdep ⟨12, .guard⟩ (by simp) rfl)
      obtain rfl := hsg
      obtain ⟨vp, hvp, hsp⟩ := hI.have 13 _ 36 (.val (.agg #[.int .u64 x0, .int .u64 x1, .int .u64 x2, .int .u64 x3, .int .u64 x4])) rfl rfl rfl (hdep ⟨13, .data⟩ (by simp) rfl)
      obtain rfl := hsp
      exact hI.stepCall (by kernel_rfl) hls rfl (wanted_of rfl rfl rfl hvg) rfl 13 #[.tmp 36] _ rfl #[.agg #[.int .u64 x0, .int .u64 x1, .int .u64 x2, .int .u64 x3, .int .u64 x4]] (by simp [eval_of hvp]) enterIsZero (.val (.bool bz)) rfl rfl ((isZero_any x0 x1 x2 x3 x4 (keyNum l) _ HFx.out).mono fun _ _ h => ⟨_, h.1.trans (congrArg (fun b => Ending.returned (.bool b)) Hbz.out.symm), rfl, h.2⟩) hK'
    · obtain rfl := Option.some.inj ho
      obtain ⟨vg, hvg, hsg⟩ := hI.have 12 _ 35 (.val (.bool true)) rfl rfl rfl (hdep ⟨12, .guard⟩ (by simp) rfl)
      obtain rfl := hsg
      have hold := hI.old (t := 7) (by kernel_rfl) rfl
      exact hI.stepPure (by kernel_rfl) hls rfl (wanted_of rfl rfl rfl hvg) rfl (.bool bz) (by simp [execOp, hold]) rfl rfl hK'
    · obtain rfl := Option.some.inj ho
      obtain ⟨vg, hvg, hsg⟩ := hI.have 12 _ 35 (.val (.bool true)) rfl rfl rfl (hdep ⟨12, .guard⟩ (by simp) rfl)
      obtain rfl := hsg
      obtain ⟨vp, hvp, hsp⟩ := hI.have 14 _ 37 (.val (.bool bz)) rfl rfl rfl (hdep ⟨14, .data⟩ (by simp) rfl)
      obtain rfl := hsp
      obtain ⟨vq, hvq, hsq⟩ := hI.have 15 _ 38 (.val (.bool bz)) rfl rfl rfl (hdep ⟨15, .data⟩ (by simp) rfl)
      obtain rfl := hsq
      exact hI.stepPure (by kernel_rfl) hls rfl (wanted_of rfl rfl rfl hvg) rfl (.bool true) (run_eqlBool rfl (eval_of hvp) (eval_of hvq) wn) rfl rfl hK'
    · obtain rfl := Option.some.inj ho
      obtain ⟨vp, hvp, hsp⟩ := hI.have 12 _ 35 (.val (.bool true)) rfl rfl rfl (hdep ⟨12, .data⟩ (by simp) rfl)
      obtain rfl := hsp
      obtain ⟨vq, hvq, hsq⟩ := hI.have 16 _ 39 (.val (.bool true)) rfl rfl rfl (hdep ⟨16, .data⟩ (by simp) rfl)
      obtain rfl := hsq
      exact hI.stepPure (by kernel_rfl) hls rfl rfl rfl (.bool true) (by simp [execOp, eval_of hvp, eval_of hvq, asBool]) rfl rfl hK'
    · obtain rfl := Option.some.inj ho
      obtain ⟨vp, hvp, hsp⟩ := hI.have 17 _ 40 (.val (.bool true)) rfl rfl rfl (hdep ⟨17, .data⟩ (by simp) rfl)
      obtain rfl := hsp
      exact hI.stepPure (by kernel_rfl) hls rfl rfl rfl (.bool true) (by simp [execOp, eval_of hvp]) rfl rfl hK'
    · obtain rfl := Option.some.inj ho
      obtain ⟨vg, hvg, hsg⟩ := hI.have 18 _ 41 (.val (.bool true)) rfl rfl rfl (hdep ⟨18, .guard⟩ (by simp) rfl)
      obtain rfl := hsg
      exact hI.stepLoad (by kernel_rfl) hls rfl (wanted_of rfl rfl rfl hvg) rfl 33 6 rfl (by kernel_rfl) (w5.heap.size) 5 rfl 33 (#[.int .u64 x0, .int .u64 x1, .int .u64 x2, .int .u64 x3, .int .u64 x4]) Hx6.out _ Try.underlying33 rfl info28 rfl rfl rfl hK'
    · obtain rfl := Option.some.inj ho
      obtain ⟨vg, hvg, hsg⟩ := hI.have 18 _ 41 (.val (.bool true)) rfl rfl rfl (hdep ⟨18, .guard⟩ (by simp) rfl)
      obtain rfl := hsg
      obtain ⟨vp, hvp, hsp⟩ := hI.have 19 _ 42 (.val (.agg #[.int .u64 x0, .int .u64 x1, .int .u64 x2, .int .u64 x3, .int .u64 x4])) rfl rfl rfl (hdep ⟨19, .data⟩ (by simp) rfl)
      obtain rfl := hsp
      exact hI.stepCall (by kernel_rfl) hls rfl (wanted_of rfl rfl rfl hvg) rfl 14 #[.tmp 42] _ rfl #[.agg #[.int .u64 x0, .int .u64 x1, .int .u64 x2, .int .u64 x3, .int .u64 x4]] (by simp [eval_of hvp]) enterOdd (.val (.bool bo)) rfl rfl ((odd_any x0 x1 x2 x3 x4 (keyNum l) _ HFx.out).mono fun _ _ h => ⟨_, h.1.trans (congrArg (fun b => Ending.returned (.bool b)) Hbo.out.symm), rfl, h.2⟩) hK'
    · obtain rfl := Option.some.inj ho
      obtain ⟨vg, hvg, hsg⟩ := hI.have 18 _ 41 (.val (.bool true)) rfl rfl rfl (hdep ⟨18, .guard⟩ (by simp) rfl)
      obtain rfl := hsg
      have hold := hI.old (t := 8) (by kernel_rfl) rfl
      exact hI.stepPure (by kernel_rfl) hls rfl (wanted_of rfl rfl rfl hvg) rfl (.bool bo) (by simp [execOp, hold]) rfl rfl hK'
    · obtain rfl := Option.some.inj ho
      obtain ⟨vg, hvg, hsg⟩ := hI.have 18 _ 41 (.val (.bool true)) rfl rfl rfl (hdep ⟨18, .guard⟩ (by simp) rfl)
      obtain rfl := hsg
      obtain ⟨vp, hvp, hsp⟩ := hI.have 20 _ 43 (.val (.bool bo)) rfl rfl rfl (hdep ⟨20, .data⟩ (by simp) rfl)
      obtain rfl := hsp
      obtain ⟨vq, hvq, hsq⟩ := hI.have 21 _ 44 (.val (.bool bo)) rfl rfl rfl (hdep ⟨21, .data⟩ (by simp) rfl)
      obtain rfl := hsq
      exact hI.stepPure (by kernel_rfl) hls rfl (wanted_of rfl rfl rfl hvg) rfl (.bool true) (run_eqlBool rfl (eval_of hvp) (eval_of hvq) wn) rfl rfl hK'
    · obtain rfl := Option.some.inj ho
      obtain ⟨vp, hvp, hsp⟩ := hI.have 18 _ 41 (.val (.bool true)) rfl rfl rfl (hdep ⟨18, .data⟩ (by simp) rfl)
      obtain rfl := hsp
      obtain ⟨vq, hvq, hsq⟩ := hI.have 22 _ 45 (.val (.bool true)) rfl rfl rfl (hdep ⟨22, .data⟩ (by simp) rfl)
      obtain rfl := hsq
      exact hI.stepPure (by kernel_rfl) hls rfl rfl rfl (.bool true) (by simp [execOp, eval_of hvp, eval_of hvq, asBool]) rfl rfl hK'
    · obtain rfl := Option.some.inj ho
      obtain ⟨vp, hvp, hsp⟩ := hI.have 23 _ 46 (.val (.bool true)) rfl rfl rfl (hdep ⟨23, .data⟩ (by simp) rfl)
      obtain rfl := hsp
      exact hI.stepPure (by kernel_rfl) hls rfl rfl rfl (.bool true) (by simp [execOp, eval_of hvp]) rfl rfl hK'
    · obtain rfl := Option.some.inj ho
      obtain ⟨vg, hvg, hsg⟩ := hI.have 24 _ 47 (.val (.bool true)) rfl rfl rfl (hdep ⟨24, .guard⟩ (by simp) rfl)
      obtain rfl := hsg
      have hold := hI.old (t := 1) (by kernel_rfl) rfl
      exact hI.stepPure (by kernel_rfl) hls rfl (wanted_of rfl rfl rfl hvg) rfl (.int .u32 n) (by simp [execOp, hold]) rfl rfl hK'
    · obtain rfl := Option.some.inj ho
      obtain ⟨vg, hvg, hsg⟩ := hI.have 24 _ 47 (.val (.bool true)) rfl rfl rfl (hdep ⟨24, .guard⟩ (by simp) rfl)
      obtain rfl := hsg
      obtain ⟨vp, hvp, hsp⟩ := hI.have 25 _ 48 (.val (.int .u32 n)) rfl rfl rfl (hdep ⟨25, .data⟩ (by simp) rfl)
      obtain rfl := hsp
      exact hI.stepCall (by kernel_rfl) hls rfl (wanted_of rfl rfl rfl hvg) rfl 15 #[.tmp 48] _ rfl #[.int .u32 n] (by simp [eval_of hvp]) enterSmall (.elem (n)) rfl rfl ((small_any n _ hn0 hn1).mono fun _ _ h => h.sp) hK'
    · obtain rfl := Option.some.inj ho
      obtain ⟨vg, hvg, hsg⟩ := hI.have 24 _ 47 (.val (.bool true)) rfl rfl rfl (hdep ⟨24, .guard⟩ (by simp) rfl)
      obtain rfl := hsg
      obtain ⟨vp, hvp, p0, p1, p2, p3, p4, rfl, hFp⟩ := hI.have 26 _ 49 (.elem (n)) rfl rfl rfl (hdep ⟨26, .data⟩ (by simp) rfl)
      exact hI.stepCall (by kernel_rfl) hls rfl (wanted_of rfl rfl rfl hvg) rfl 11 #[.tmp 49] _ rfl #[.agg #[.int .u64 p0, .int .u64 p1, .int .u64 p2, .int .u64 p3, .int .u64 p4]] (by simp [eval_of hvp]) enterBytes (.val (.agg (numsA .u8 (digits 256 32 (n % pp))))) rfl rfl ((bytes_any p0 p1 p2 p3 p4 n _ hFp).mono fun _ _ h => ⟨_, h.1, rfl, h.2⟩) hK'
    · obtain rfl := Option.some.inj ho
      obtain ⟨vg, hvg, hsg⟩ := hI.have 24 _ 47 (.val (.bool true)) rfl rfl rfl (hdep ⟨24, .guard⟩ (by simp) rfl)
      obtain rfl := hsg
      have hold := hI.old (t := 1) (by kernel_rfl) rfl
      exact hI.stepPure (by kernel_rfl) hls rfl (wanted_of rfl rfl rfl hvg) rfl (.int .u32 n) (by simp [execOp, hold]) rfl rfl hK'
    · obtain rfl := Option.some.inj ho
      obtain ⟨vg, hvg, hsg⟩ := hI.have 24 _ 47 (.val (.bool true)) rfl rfl rfl (hdep ⟨24, .guard⟩ (by simp) rfl)
      obtain rfl := hsg
      obtain ⟨vp, hvp, hsp⟩ := hI.have 28 _ 51 (.val (.int .u32 n)) rfl rfl rfl (hdep ⟨28, .data⟩ (by simp) rfl)
      obtain rfl := hsp
      exact hI.stepPure (by kernel_rfl) hls rfl (wanted_of rfl rfl rfl hvg) rfl (.int .u64 n) (run_conv32 rfl (eval_of hvp) hn0 hn1 wn) rfl rfl hK'
    · obtain rfl := Option.some.inj ho
      obtain ⟨vg, hvg, hsg⟩ := hI.have 24 _ 47 (.val (.bool true)) rfl rfl rfl (hdep ⟨24, .guard⟩ (by simp) rfl)
      obtain rfl := hsg
      obtain ⟨vp, hvp, hsp⟩ := hI.have 29 _ 52 (.val (.int .u64 n)) rfl rfl rfl (hdep ⟨29, .data⟩ (by simp) rfl)
      obtain rfl := hsp
      exact hI.stepCall (by kernel_rfl) hls rfl (wanted_of rfl rfl rfl hvg) rfl 16 #[.tmp 52] _ rfl #[.int .u64 n] (by simp [eval_of hvp]) enterrSmall (.val (.agg (numN n))) rfl rfl ((rSmall_any n _ hn0 hn1).mono fun _ _ h => ⟨_, h.1, rfl, h.2⟩) hK'
    · obtain rfl := Option.some.inj ho
      obtain ⟨vg, hvg, hsg⟩ := hI.have 24 _ 47 (.val (.bool true)) rfl rfl rfl (hdep ⟨24, .guard⟩ (by simp) rfl)
      obtain rfl := hsg
      obtain ⟨vp, hvp, hsp⟩ := hI.have 30 _ 53 (.val (.agg (numN n))) rfl rfl rfl (hdep ⟨30, .data⟩ (by simp) rfl)
      obtain rfl := hsp
      exact hI.stepCall (by kernel_rfl) hls rfl (wanted_of rfl rfl rfl hvg) rfl 8 #[.tmp 53] _ rfl #[.agg (numN n)] (by simp [eval_of hvp]) enterrBytes (.val (.agg (numsA .u8 (digits 256 32 (n % pp))))) rfl rfl ((rBytes_any n _ hn0 (by omega)).mono fun _ _ h => ⟨_, h.1, rfl, h.2⟩) hK'
    · obtain rfl := Option.some.inj ho
      obtain ⟨vg, hvg, hsg⟩ := hI.have 24 _ 47 (.val (.bool true)) rfl rfl rfl (hdep ⟨24, .guard⟩ (by simp) rfl)
      obtain rfl := hsg
      obtain ⟨vp, hvp, hsp⟩ := hI.have 27 _ 50 (.val (.agg (numsA .u8 (digits 256 32 (n % pp))))) rfl rfl rfl (hdep ⟨27, .data⟩ (by simp) rfl)
      obtain rfl := hsp
      obtain ⟨vq, hvq, hsq⟩ := hI.have 31 _ 54 (.val (.agg (numsA .u8 (digits 256 32 (n % pp))))) rfl rfl rfl (hdep ⟨31, .data⟩ (by simp) rfl)
      obtain rfl := hsq
      exact hI.stepPure (by kernel_rfl) hls rfl (wanted_of rfl rfl rfl hvg) rfl (.bool true) ((run_eqlKey rfl (eval_of hvp) (eval_of hvq) (digits_length _ _ _) (digits_length _ _ _) wn).trans (by simp)) rfl rfl hK'
    · obtain rfl := Option.some.inj ho
      obtain ⟨vp, hvp, hsp⟩ := hI.have 24 _ 47 (.val (.bool true)) rfl rfl rfl (hdep ⟨24, .data⟩ (by simp) rfl)
      obtain rfl := hsp
      obtain ⟨vq, hvq, hsq⟩ := hI.have 32 _ 55 (.val (.bool true)) rfl rfl rfl (hdep ⟨32, .data⟩ (by simp) rfl)
      obtain rfl := hsq
      exact hI.stepPure (by kernel_rfl) hls rfl rfl rfl (.bool true) (by simp [execOp, eval_of hvp, eval_of hvq, asBool]) rfl rfl hK'
    · obtain rfl := Option.some.inj ho
      obtain ⟨vp, hvp, hsp⟩ := hI.have 33 _ 56 (.val (.bool true)) rfl rfl rfl (hdep ⟨33, .data⟩ (by simp) rfl)
      obtain rfl := hsp
      exact hI.stepPure (by kernel_rfl) hls rfl rfl rfl (.bool true) (by simp [execOp, eval_of hvp]) rfl rfl hK'
  · intro fuel an wn hf hI
    obtain ⟨v0, hv0, hs0⟩ := hI.have 0 _ 23 (.val (.agg #[.int .u64 x0, .int .u64 x1, .int .u64 x2, .int .u64 x3, .int .u64 x4])) rfl rfl rfl rfl
    obtain rfl := hs0
    obtain ⟨v1, hv1, hs1⟩ := hI.have 1 _ 24 (.val (.agg (numsA .u8 (digits 256 32 ((keyNum l) % pp))))) rfl rfl rfl rfl
    obtain rfl := hs1
    obtain ⟨v2, hv2, hs2⟩ := hI.have 2 _ 25 (.val (.agg (numsA .u8 (digits 256 32 (keyNum l % pp))))) rfl rfl rfl rfl
    obtain rfl := hs2
    obtain ⟨v3, hv3, hs3⟩ := hI.have 3 _ 26 (.val (.bool true)) rfl rfl rfl rfl
    obtain rfl := hs3
    obtain ⟨v4, hv4, hs4⟩ := hI.have 4 _ 27 (.val (.bool true)) rfl rfl rfl rfl
    obtain rfl := hs4
    obtain ⟨v5, hv5, hs5⟩ := hI.have 5 _ 28 (.val (.agg (numsA .u8 l))) rfl rfl rfl rfl
    obtain rfl := hs5
    obtain ⟨v6, hv6, hs6⟩ := hI.have 6 _ 29 (.val (.bool (canonB l))) rfl rfl rfl rfl
    obtain rfl := hs6
    obtain ⟨v7, hv7, hs7⟩ := hI.have 7 _ 30 (.val (.agg (numsA .u8 (digits 256 32 (keyNum l % pp))))) rfl rfl rfl rfl
    obtain rfl := hs7
    obtain ⟨v8, hv8, hs8⟩ := hI.have 8 _ 31 (.val (.agg (numsA .u8 l))) rfl rfl rfl rfl
    obtain rfl := hs8
    obtain ⟨v9, hv9, hs9⟩ := hI.have 9 _ 32 (.val (.bool (canonB l))) rfl rfl rfl rfl
    obtain rfl := hs9
    obtain ⟨v10, hv10, hs10⟩ := hI.have 10 _ 33 (.val (.bool true)) rfl rfl rfl rfl
    obtain rfl := hs10
    obtain ⟨v11, hv11, hs11⟩ := hI.have 11 _ 34 (.val (.bool true)) rfl rfl rfl rfl
    obtain rfl := hs11
    obtain ⟨v12, hv12, hs12⟩ := hI.have 12 _ 35 (.val (.bool true)) rfl rfl rfl rfl
    obtain rfl := hs12
    obtain ⟨v13, hv13, hs13⟩ := hI.have 13 _ 36 (.val (.agg #[.int .u64 x0, .int .u64 x1, .int .u64 x2, .int .u64 x3, .int .u64 x4])) rfl rfl rfl rfl
    obtain rfl := hs13
    obtain ⟨v14, hv14, hs14⟩ := hI.have 14 _ 37 (.val (.bool bz)) rfl rfl rfl rfl
    obtain rfl := hs14
    obtain ⟨v15, hv15, hs15⟩ := hI.have 15 _ 38 (.val (.bool bz)) rfl rfl rfl rfl
    obtain rfl := hs15
    obtain ⟨v16, hv16, hs16⟩ := hI.have 16 _ 39 (.val (.bool true)) rfl rfl rfl rfl
    obtain rfl := hs16
    obtain ⟨v17, hv17, hs17⟩ := hI.have 17 _ 40 (.val (.bool true)) rfl rfl rfl rfl
    obtain rfl := hs17
    obtain ⟨v18, hv18, hs18⟩ := hI.have 18 _ 41 (.val (.bool true)) rfl rfl rfl rfl
    obtain rfl := hs18
    obtain ⟨v19, hv19, hs19⟩ := hI.have 19 _ 42 (.val (.agg #[.int .u64 x0, .int .u64 x1, .int .u64 x2, .int .u64 x3, .int .u64 x4])) rfl rfl rfl rfl
    obtain rfl := hs19
    obtain ⟨v20, hv20, hs20⟩ := hI.have 20 _ 43 (.val (.bool bo)) rfl rfl rfl rfl
    obtain rfl := hs20
    obtain ⟨v21, hv21, hs21⟩ := hI.have 21 _ 44 (.val (.bool bo)) rfl rfl rfl rfl
    obtain rfl := hs21
    obtain ⟨v22, hv22, hs22⟩ := hI.have 22 _ 45 (.val (.bool true)) rfl rfl rfl rfl
    obtain rfl := hs22
    obtain ⟨v23, hv23, hs23⟩ := hI.have 23 _ 46 (.val (.bool true)) rfl rfl rfl rfl
    obtain rfl := hs23
    obtain ⟨v24, hv24, hs24⟩ := hI.have 24 _ 47 (.val (.bool true)) rfl rfl rfl rfl
    obtain rfl := hs24
    obtain ⟨v25, hv25, hs25⟩ := hI.have 25 _ 48 (.val (.int .u32 n)) rfl rfl rfl rfl
    obtain rfl := hs25
    obtain ⟨v26, hv26, e26_0, e26_1, e26_2, e26_3, e26_4, rfl, hF26⟩ := hI.have 26 _ 49 (.elem (n)) rfl rfl rfl rfl
    obtain ⟨v27, hv27, hs27⟩ := hI.have 27 _ 50 (.val (.agg (numsA .u8 (digits 256 32 (n % pp))))) rfl rfl rfl rfl
    obtain rfl := hs27
    obtain ⟨v28, hv28, hs28⟩ := hI.have 28 _ 51 (.val (.int .u32 n)) rfl rfl rfl rfl
    obtain rfl := hs28
    obtain ⟨v29, hv29, hs29⟩ := hI.have 29 _ 52 (.val (.int .u64 n)) rfl rfl rfl rfl
    obtain rfl := hs29
    obtain ⟨v30, hv30, hs30⟩ := hI.have 30 _ 53 (.val (.agg (numN n))) rfl rfl rfl rfl
    obtain rfl := hs30
    obtain ⟨v31, hv31, hs31⟩ := hI.have 31 _ 54 (.val (.agg (numsA .u8 (digits 256 32 (n % pp))))) rfl rfl rfl rfl
    obtain rfl := hs31
    obtain ⟨v32, hv32, hs32⟩ := hI.have 32 _ 55 (.val (.bool true)) rfl rfl rfl rfl
    obtain rfl := hs32
    obtain ⟨v33, hv33, hs33⟩ := hI.have 33 _ 56 (.val (.bool true)) rfl rfl rfl rfl
    obtain rfl := hs33
    obtain ⟨v34, hv34, hs34⟩ := hI.have 34 _ 4 (.val (.bool true)) rfl rfl rfl rfl
    obtain rfl := hs34
    have hupd := hI.upd
    have ha := hI.act [(23, .agg #[.int .u64 x0, .int .u64 x1, .int .u64 x2, .int .u64 x3, .int .u64 x4]), (24, .agg (numsA .u8 (digits 256 32 ((keyNum l) % pp)))), (25, .agg (numsA .u8 (digits 256 32 (keyNum l % pp)))), (26, .bool true), (27, .bool true), (28, .agg (numsA .u8 l)), (29, .bool (canonB l)), (30, .agg (numsA .u8 (digits 256 32 (keyNum l % pp)))), (31, .agg (numsA .u8 l)), (32, .bool (canonB l)), (33, .bool true), (34, .bool true), (35, .bool true), (36, .agg #[.int .u64 x0, .int .u64 x1, .int .u64 x2, .int .u64 x3, .int .u64 x4]), (37, .bool bz), (38, .bool bz), (39, .bool true), (40, .bool true), (41, .bool true), (42, .agg #[.int .u64 x0, .int .u64 x1, .int .u64 x2, .int .u64 x3, .int .u64 x4]), (43, .bool bo), (44, .bool bo), (45, .bool true), (46, .bool true), (47, .bool true), (48, .int .u32 n), (49, .agg #[.int .u64 e26_0, .int .u64 e26_1, .int .u64 e26_2, .int .u64 e26_3, .int .u64 e26_4]), (50, .agg (numsA .u8 (digits 256 32 (n % pp)))), (51, .int .u32 n), (52, .int .u64 n), (53, .agg (numN n)), (54, .agg (numsA .u8 (digits 256 32 (n % pp)))), (55, .bool true), (56, .bool true), (4, .bool true)] (by simp [hv0, hv1, hv2, hv3, hv4, hv5, hv6, hv7, hv8, hv9, hv10, hv11, hv12, hv13, hv14, hv15, hv16, hv17, hv18, hv19, hv20, hv21, hv22, hv23, hv24, hv25, hv26, hv27, hv28, hv29, hv30, hv31, hv32, hv33, hv34]) (by kernel_rfl)
    clear hI hv0 hv1 hv2 hv3 hv4 hv5 hv6 hv7 hv8 hv9 hv10 hv11 hv12 hv13 hv14 hv15 hv16 hv17 hv18 hv19 hv20 hv21 hv22 hv23 hv24 hv25 hv26 hv27 hv28 hv29 hv30 hv31 hv32 hv33 hv34
    subst ha
    simp only [List.foldl_cons, List.foldl_nil, List.setIfInBounds_toArray, List.set_cons_zero, List.set_cons_succ]
    refine wpAny_done (by kernel_rfl) ?_ _
    go_wp2
    go_ret
    exact ⟨rfl, Hu6.out.drew.drew.trans hupd⟩
end Go.Proofs.Ytaejngaohkalcaa
