/-
  The walks of filled, Invert, and of the reference's Invert; what they are.
-/
import Derived.Test.YthnpbodkcdbckaaDoorRefP
import Derived.Test.YthnpbodkcdbckaaDoorExpMath
namespace Go.Proofs.YthnpbodkcdbckaaDoor
set_option maxRecDepth 100000
open Go.RowKit

/-- What filled makes. -/
def fillL (x y : Int) : List Int := ((List.replicate 32 255).set 0 x).set 31 y
theorem fillL_length (x y : Int) : (fillL x y).length = 32 := by simp [fillL]
theorem fillL_digs {x y : Int} (hx : 0 ≤ x ∧ x < 256) (hy : 0 ≤ y ∧ y < 256) : Digs 256 (fillL x y) := by
  intro v hv
  unfold fillL at hv
  rcases List.mem_or_eq_of_mem_set hv with h | rfl
  · rcases List.mem_or_eq_of_mem_set h with h | rfl
    · rw [List.mem_replicate] at h; omega
    · exact hx
  · exact hy
set_option maxHeartbeats 1000000 in
theorem filled_any (x y : Int) (w : World) : Calls Tryd.prog 82 #[.int .u8 x, .int .u8 y] w fun e w' => e = .returned (.agg (numsA .u8 (fillL x y))) ∧ Upd (fun _ => False) w w' := by
  have hz := zeroK_run
  have HF : Hid (fillTo (fun _ => 255) 32 32 = List.replicate 32 255) := by show _ = _; rw [fillTo_all]; decide
  go_enter Tryd.func82, Tryd.ntmps82
  go_wp2
  go_loopw [7] (fun i wr => ∃ k : Nat, k ≤ 32 ∧ i = .int .i64 k ∧ KeyRel w wr w.heap.size (w.heap.size + 1) (fillTo (fun _ => 255) 32 k)) (fun i _ => 32 - (intOf i).toNat)
  case atStart => exact ⟨0, by omega, rfl, ((Upd.refl (fun _ => False) w).alloc _).alloc _, (Blk.at1 w _ _).alloc _, by rw [fillTo_zero]; exact Blk.at2 w _ _ _, fillTo_length _ _ _, by omega, by omega⟩
  case round =>
    obtain ⟨k, hk, rfl, hrel⟩ := hrel
    have hfr := hrel.out.frozen
    by_cases hlt : k < 32
    · have hc := hrel.cell k hlt
      have Hrel := Lib.hid hrel
      clear hrel
      go_wp2
      have := Hrel.out.set k 255
      rw [fillTo_succ (fun _ => 255) 32 k] at this
      exact ⟨⟨k + 1, by omega, by go_num, this⟩, by simp [intOf]; omega⟩
    · obtain rfl : k = 32 := by omega
      rw [HF.out] at hrel
      have hc0 := hrel.cell 0 (by omega)
      have hc31 := hrel.cell 31 (by omega)
      have hr2 := (hrel.set 0 x).set 31 y
      have Hr2 : Hid (KeyRel w _ w.heap.size (w.heap.size + 1) (fillL x y)) := hr2
      have HS : Hid ((numsA .u8 (fillL x y)).size = 32) := by show _ = _; rw [numsA_size, fillL_length]
      have hd32 : decide (((32 : Nat) : Int) < 32) = false := by decide
      clear hrel hr2
      go_wp2_with (first
        | (refine wpList_loadBlk rfl 23 _ rfl (w.heap.size + 1) 0 32 rfl 23 (numsA .u8 (fillL x y)) _ Hr2.out.out Tryd.underlying23 rfl sizeKey (by rw [HS.out]; omega) ?_; rw [extract_all _ _ HS.out])
        | (refine wpList_storeBlk2 rfl 23 _ _ rfl w.heap.size 0 32 rfl (numsA .u8 (fillL x y)) rfl 23 _ Hr2.out.res sizeKey HS.out (by rw [zeroK_size]; omega) (numsA_one _ _) ?_; intro wz hbz huz hzz; rw [splice_all _ _ 32 zeroK_size HS.out] at hbz; have Hbz := Lib.hid hbz; have Huz := Lib.hid huz; clear hbz huz hzz))
      exact bodyPost_ret (v := .agg (numsA .u8 (fillL x y))) (results_cell_row (fn := Tryd.f82) (p := 4) (ty := 23) rfl _ _ w.heap.size 23 _ (0, 0) _ rfl Hbz.out Tryd.underlying23 rfl (by rw [HS.out]; exact sizeKey)) rfl ⟨rfl, Hr2.out.upd.step Huz.out (fun i hi h => by omega)⟩
theorem enterfilled (vs : Array Value) (w : World) : (callFunc 82 vs).run Tryd.prog w = .ok (.enter 82 vs) w := run_enter Tryd.func82 (by kernel_rfl) (by kernel_rfl) vs w
theorem enterPower' (vs : Array Value) (w : World) : (callFunc 81 vs).run Tryd.prog w = .ok (.enter 81 vs) w := run_enter Tryd.func81 (by kernel_rfl) (by kernel_rfl) vs w
theorem enterrPower (vs : Array Value) (w : World) : (callFunc 90 vs).run Tryd.prog w = .ok (.enter 90 vs) w := run_enter Tryd.func90 (by kernel_rfl) (by kernel_rfl) vs w
theorem enterrInvert (vs : Array Value) (w : World) : (callFunc 59 vs).run Tryd.prog w = .ok (.enter 59 vs) w := run_enter Tryd.func59 (by kernel_rfl) (by kernel_rfl) vs w
/-- p - 2. -/
def expInv : Nat := expo (fillL 235 127)
theorem expInv_eq : expInv = (pp - 2).toNat := by decide +kernel
set_option maxRecDepth 100000 in
set_option maxHeartbeats 2000000 in
theorem invert_any (x0 x1 x2 x3 x4 m : Int) (w : World) (hx : Fits x0 x1 x2 x3 x4 m) : Calls Tryd.prog 47 #[.agg #[.int .u64 x0, .int .u64 x1, .int .u64 x2, .int .u64 x3, .int .u64 x4]] w (RetE (m ^ expInv) w) := by
  have HX := Lib.hid hx
  clear hx
  have Hb0 := Lib.hid ((Blk.at1 w #[.int .u64 x0, .int .u64 x1, .int .u64 x2, .int .u64 x3, .int .u64 x4] 39).alloc (.cells #[.int .u64 0, .int .u64 0, .int .u64 0, .int .u64 0, .int .u64 0] 39))
  have Hb1 := Lib.hid (Blk.at2 w (.cells #[.int .u64 x0, .int .u64 x1, .int .u64 x2, .int .u64 x3, .int .u64 x4] 39) #[.int .u64 0, .int .u64 0, .int .u64 0, .int .u64 0, .int .u64 0] 39)
  go_enter Tryd.func47, Tryd.ntmps47
  go_wp2
  refine wp_region_slots #[true, true, true, false] ([.val (.agg #[.int .u64 x0, .int .u64 x1, .int .u64 x2, .int .u64 x3, .int .u64 x4]), .val (.agg (numsA .u8 (fillL 235 127))), .elem (m ^ expo (fillL 235 127))] : List SP) (by kernel_rfl) (by kernel_rfl) (by kernel_rfl) ?_ ?_
  · intro i o listed an wn ho hls hst hun hdep hI K' hK'
    have hi : i < 3 := by
      rcases Nat.lt_or_ge i 3 with h | h
      · exact h
      · exfalso
        have hq : i = 3 ∨ 4 ≤ i := by omega
        rcases hq with rfl | h2
        · cases hst
        · have := idx_lt ho; simp at this; omega
    have hcase : i = 0 ∨ i = 1 ∨ i = 2 := by omega
    rcases hcase with rfl | rfl | rfl
    · obtain rfl := Option.some.inj ho
      exact hI.stepLoad (by kernel_rfl) hls rfl rfl rfl 39 1 rfl (by kernel_rfl) (w.heap.size) 5 rfl 39 (#[.int .u64 x0, .int .u64 x1, .int .u64 x2, .int .u64 x3, .int .u64 x4]) Hb0.out _ Tryd.underlying39 rfl info28 rfl rfl rfl hK'
    · obtain rfl := Option.some.inj ho
      exact hI.stepCall (by kernel_rfl) hls rfl rfl rfl 82 #[.const (.int .u8 235), .const (.int .u8 127)] _ rfl #[.int .u8 235, .int .u8 127] (by simp [Act.eval]) enterfilled (.val (.agg (numsA .u8 (fillL 235 127)))) rfl rfl ((filled_any 235 127 _).mono fun _ _ h => ⟨_, h.1, rfl, h.2⟩) hK'
    · obtain rfl := Option.some.inj ho
      obtain ⟨vp, hvp, hsp⟩ := hI.have 0 _ 3 (.val (.agg #[.int .u64 x0, .int .u64 x1, .int .u64 x2, .int .u64 x3, .int .u64 x4])) rfl rfl rfl (hdep ⟨0, .data⟩ (by simp) rfl)
      obtain rfl := hsp
      obtain ⟨vq, hvq, hsq⟩ := hI.have 1 _ 4 (.val (.agg (numsA .u8 (fillL 235 127)))) rfl rfl rfl (hdep ⟨1, .data⟩ (by simp) rfl)
      obtain rfl := hsq
      exact hI.stepCall (by kernel_rfl) hls rfl rfl rfl 81 #[.tmp 3, .tmp 4] _ rfl #[.agg #[.int .u64 x0, .int .u64 x1, .int .u64 x2, .int .u64 x3, .int .u64 x4], .agg (numsA .u8 (fillL 235 127))] (by simp [eval_of hvp, eval_of hvq]) enterPower' (.elem (m ^ expo (fillL 235 127))) rfl rfl ((power_any x0 x1 x2 x3 x4 m (fillL 235 127) _ HX.out (fillL_length _ _) (fillL_digs (by omega) (by omega))).mono fun _ _ h => h.sp) hK'
  · intro fuel an wn hf hI
    obtain ⟨v0, hv0, hs0⟩ := hI.have 0 _ 3 (.val (.agg #[.int .u64 x0, .int .u64 x1, .int .u64 x2, .int .u64 x3, .int .u64 x4])) rfl rfl rfl rfl
    obtain rfl := hs0
    obtain ⟨v1, hv1, hs1⟩ := hI.have 1 _ 4 (.val (.agg (numsA .u8 (fillL 235 127)))) rfl rfl rfl rfl
    obtain rfl := hs1
    obtain ⟨v2, hv2, e2_0, e2_1, e2_2, e2_3, e2_4, rfl, hF2⟩ := hI.have 2 _ 5 (.elem (m ^ expo (fillL 235 127))) rfl rfl rfl rfl
    have hupd := hI.upd
    have ha := hI.act [(3, .agg #[.int .u64 x0, .int .u64 x1, .int .u64 x2, .int .u64 x3, .int .u64 x4]), (4, .agg (numsA .u8 (fillL 235 127))), (5, .agg #[.int .u64 e2_0, .int .u64 e2_1, .int .u64 e2_2, .int .u64 e2_3, .int .u64 e2_4])] (by simp [hv0, hv1, hv2]) (by kernel_rfl)
    clear hI hv0 hv1 hv2
    subst ha
    simp only [List.foldl_cons, List.foldl_nil, List.setIfInBounds_toArray, List.set_cons_zero, List.set_cons_succ]
    have hf0 : left #[true, true, true, false] 4 = 1 := by kernel_rfl
    have hf1 : left #[true, true, true, false] 4 ≤ fuel := hf
    obtain ⟨fu, rfl⟩ : ∃ fu, fuel = fu + 1 := ⟨fuel - 1, by omega⟩
    clear hf hf0 hf1
    refine wpAny_ready (rs := [3]) (by kernel_rfl) (by simp) (AllReady.cons rfl (fun K hK => ?_) AllReady.nil)
    refine step_storeBlk2 rfl 39 (.tmp 2) (.tmp 5) rfl (w.heap.size + 1) 0 5 rfl (#[.int .u64 e2_0, .int .u64 e2_1, .int .u64 e2_2, .int .u64 e2_3, .int .u64 e2_4]) rfl 39 (#[.int .u64 0, .int .u64 0, .int .u64 0, .int .u64 0, .int .u64 0]) (hupd.blk (show Blk _ _ _ _ from Hb1.out) (fun h => h)) info28 rfl (by simp) (one5 _ _ _ _ _) ?_
    intro ws0 hs0 hus0 _
    rw [splice_all _ _ 5 rfl rfl] at hs0
    refine hK _ _ ?_
    clear hK K
    dsimp only [Act.put]
    refine wpAny_done (by kernel_rfl) ?_ _
    go_wp2
    exact bodyPost_ret (v := .agg #[.int .u64 e2_0, .int .u64 e2_1, .int .u64 e2_2, .int .u64 e2_3, .int .u64 e2_4]) (results_cell_row (fn := Tryd.f47) (p := 2) (ty := 39) rfl _ _ (w.heap.size + 1) 39 _ (0, 0) _ rfl hs0 Tryd.underlying39 rfl info28) rfl ⟨_, _, _, _, _, hF2, rfl, ((((Upd.refl (fun _ => False) w).alloc _).alloc _).drew.trans hupd).step hus0 (fun i hi h => by omega)⟩
theorem minus2_le : dig 65536 (digits 65536 16 2) ≤ dig 65536 (digits 65536 16 pp) := by decide +kernel
theorem minus2_eq : numsA .u64 (digits 65536 16 (dig 65536 (digits 65536 16 pp) - dig 65536 (digits 65536 16 2))) = numN (pp - 2) := by
  rw [dig16 pp (by decide) (by decide), dig16 2 (by decide) (by decide)]
  rfl
set_option maxRecDepth 100000 in
set_option maxHeartbeats 2000000 in
theorem rInvert_any (u m : Int) (w : World) (hu : NumOk u m) : Calls Tryd.prog 59 #[.agg (numN u)] w (RetN (m ^ expInv) w) := by
  have hz := zeroN_run
  have HU := Lib.hid hu
  clear hu
  have Hb0 := Lib.hid ((Blk.at1 w (numN u) 45).alloc (.cells zeroN 45))
  have Hb1 := Lib.hid (Blk.at2 w (.cells (numN u) 45) zeroN 45)
  go_enter Tryd.func59, Tryd.ntmps59
  go_wp2
  refine wp_region_slots #[true, true, true, true, true, false] ([.val (.agg (numN u)), .val (.agg (numN pp)), .val (.agg (numN (2))), .val (.agg (numN (pp - 2))), .like (LikeN (m ^ expInv))] : List SP) (by kernel_rfl) (by kernel_rfl) (by kernel_rfl) ?_ ?_
  · intro i o listed an wn ho hls hst hun hdep hI K' hK'
    have hi : i < 5 := by
      rcases Nat.lt_or_ge i 5 with h | h
      · exact h
      · exfalso
        have hq : i = 5 ∨ 6 ≤ i := by omega
        rcases hq with rfl | h2
        · cases hst
        · have := idx_lt ho; simp at this; omega
    have hcase : i = 0 ∨ i = 1 ∨ i = 2 ∨ i = 3 ∨ i = 4 := by omega
    rcases hcase with rfl | rfl | rfl | rfl | rfl
    · obtain rfl := Option.some.inj ho
      exact hI.stepLoad (by kernel_rfl) hls rfl rfl rfl 45 1 rfl (by kernel_rfl) (w.heap.size) 16 rfl 45 (numN u) Hb0.out _ Tryd.underlying45 rfl sizeNum (numN_size _) rfl rfl hK'
    · obtain rfl := Option.some.inj ho
      exact hI.stepCall (by kernel_rfl) hls rfl rfl rfl 92 #[] _ rfl #[] (by simp [Act.eval]) enterrPrime (.val (.agg (numN pp))) rfl rfl ((rPrime_any _).mono fun _ _ h => ⟨_, h.1, rfl, h.2⟩) hK'
    · obtain rfl := Option.some.inj ho
      exact hI.stepCall (by kernel_rfl) hls rfl rfl rfl 54 #[.const (.int .u64 2)] _ rfl #[.int .u64 2] (by simp [Act.eval]) enterrSmall (.val (.agg (numN (2)))) rfl rfl ((rSmall_any (2) _ (by omega) (by omega)).mono fun _ _ h => ⟨_, h.1, rfl, h.2⟩) hK'
    · obtain rfl := Option.some.inj ho
      obtain ⟨vp, hvp, hsp⟩ := hI.have 1 _ 4 (.val (.agg (numN pp))) rfl rfl rfl (hdep ⟨1, .data⟩ (by simp) rfl)
      obtain rfl := hsp
      obtain ⟨vq, hvq, hsq⟩ := hI.have 2 _ 5 (.val (.agg (numN (2)))) rfl rfl rfl (hdep ⟨2, .data⟩ (by simp) rfl)
      obtain rfl := hsq
      exact hI.stepCall (by kernel_rfl) hls rfl rfl rfl 91 #[.tmp 4, .tmp 5] _ rfl #[.agg (numN pp), .agg (numN (2))] (by simp [eval_of hvp, eval_of hvq]) enterrminus (.val (.agg (numN (pp - 2)))) rfl rfl ((rminus_any _ _ _ (digits_length _ _ _) (digits_length _ _ _) (digs16 pp) (digs16 2) minus2_le).mono fun _ _ h => ⟨_, h.1.trans (congrArg (fun b => Ending.returned (.agg b)) minus2_eq), rfl, h.2⟩) hK'
    · obtain rfl := Option.some.inj ho
      obtain ⟨vp, hvp, hsp⟩ := hI.have 0 _ 3 (.val (.agg (numN u))) rfl rfl rfl (hdep ⟨0, .data⟩ (by simp) rfl)
      obtain rfl := hsp
      obtain ⟨vq, hvq, hsq⟩ := hI.have 3 _ 6 (.val (.agg (numN (pp - 2)))) rfl rfl rfl (hdep ⟨3, .data⟩ (by simp) rfl)
      obtain rfl := hsq
      exact hI.stepCall (by kernel_rfl) hls rfl rfl rfl 90 #[.tmp 3, .tmp 6] _ rfl #[.agg (numN u), .agg (numN (pp - 2))] (by simp [eval_of hvp, eval_of hvq]) enterrPower (.like (LikeN (m ^ expInv))) rfl rfl ((rPower_any u m (pp - 2) _ HU.out (by decide) (by decide)).mono fun _ _ h => by rw [← expInv_eq] at h; exact h.sp) hK'
  · intro fuel an wn hf hI
    obtain ⟨v0, hv0, hs0⟩ := hI.have 0 _ 3 (.val (.agg (numN u))) rfl rfl rfl rfl
    obtain rfl := hs0
    obtain ⟨v1, hv1, hs1⟩ := hI.have 1 _ 4 (.val (.agg (numN pp))) rfl rfl rfl rfl
    obtain rfl := hs1
    obtain ⟨v2, hv2, hs2⟩ := hI.have 2 _ 5 (.val (.agg (numN (2)))) rfl rfl rfl rfl
    obtain rfl := hs2
    obtain ⟨v3, hv3, hs3⟩ := hI.have 3 _ 6 (.val (.agg (numN (pp - 2)))) rfl rfl rfl rfl
    obtain rfl := hs3
    obtain ⟨v4, hv4, r4_, rfl, hN4⟩ := hI.have 4 _ 7 (.like (LikeN (m ^ expInv))) rfl rfl rfl rfl
    have hupd := hI.upd
    have ha := hI.act [(3, .agg (numN u)), (4, .agg (numN pp)), (5, .agg (numN (2))), (6, .agg (numN (pp - 2))), (7, .agg (numN r4_))] (by simp [hv0, hv1, hv2, hv3, hv4]) (by kernel_rfl)
    clear hI hv0 hv1 hv2 hv3 hv4
    subst ha
    simp only [List.foldl_cons, List.foldl_nil, List.setIfInBounds_toArray, List.set_cons_zero, List.set_cons_succ]
    have hf0 : left #[true, true, true, true, true, false] 6 = 1 := by kernel_rfl
    have hf1 : left #[true, true, true, true, true, false] 6 ≤ fuel := hf
    obtain ⟨fu, rfl⟩ : ∃ fu, fuel = fu + 1 := ⟨fuel - 1, by omega⟩
    clear hf hf0 hf1
    refine wpAny_ready (rs := [5]) (by kernel_rfl) (by simp) (AllReady.cons rfl (fun K hK => ?_) AllReady.nil)
    refine step_storeBlk2 rfl 45 (.tmp 2) (.tmp 7) rfl (w.heap.size + 1) 0 16 rfl (numN r4_) rfl 45 zeroN (hupd.blk (show Blk _ _ _ _ from Hb1.out) (fun h => h)) sizeNum (numN_size _) (by rw [zeroN_size]; omega) (numsA_one _ _) ?_
    intro ws0 hs0 hus0 _
    rw [splice_all _ _ 16 zeroN_size (numN_size _)] at hs0
    refine hK _ _ ?_
    clear hK K
    dsimp only [Act.put]
    refine wpAny_done (by kernel_rfl) ?_ _
    go_wp2
    exact bodyPost_ret (v := .agg (numN r4_)) (results_cell_row (fn := Tryd.f59) (p := 2) (ty := 45) rfl _ _ (w.heap.size + 1) 45 _ (0, 0) _ rfl hs0 Tryd.underlying45 rfl (by rw [numN_size]; exact sizeNum)) rfl ⟨r4_, hN4, rfl, ((((Upd.refl (fun _ => False) w).alloc _).alloc _).drew.trans hupd).step hus0 (fun i hi h => by omega)⟩
/-- A number times what is one divided by it is one, but for nought. -/
theorem cong_zero {m : Int} (h : m % pp = 0) : Cong m 0 := (cong_iff m 0).2 (by rw [h]; decide)
theorem inv_zero {m : Int} (h : m % pp = 0) : Cong (m ^ expInv) 0 := by
  have h1 := (cong_zero h).pow expInv
  rw [show (0 : Int) ^ expInv = 0 from Int.zero_pow (by rw [expInv_eq]; decide)] at h1
  exact h1
theorem inv_one {m : Int} (h : m % pp ≠ 0) : Cong (m * m ^ expInv) 1 := by
  have hm0 : 0 ≤ m % pp := Int.emod_nonneg _ (by decide)
  obtain ⟨a, ha⟩ : ∃ a : Nat, m % pp = (a : Int) := ⟨(m % pp).toNat, by omega⟩
  have h1 : Cong m a := by rw [← ha]; exact (Cong.mod m).symm
  obtain ⟨p, hp, e⟩ := prime_pp
  have hlt := Int.emod_lt_of_pos m pp_pos
  have hnd : ¬ p ∣ a := fun hd => by
    have : p ≤ a := Nat.le_of_dvd (by omega) hd
    omega
  have hf := fermat_one hp hnd
  have e2 : expInv + 1 = p - 1 := by rw [expInv_eq, show p = pp.toNat by omega]; decide +kernel
  have h2 : m * m ^ expInv = m ^ (p - 1) := by rw [← e2, Int.pow_succ, Int.mul_comm]
  rw [h2]
  refine (h1.pow (p - 1)).trans ?_
  have e1 : ((a ^ (p - 1) % p : Nat) : Int) = ((1 % p : Nat) : Int) := by rw [hf]
  rw [Int.natCast_emod, Int.natCast_emod, Int.natCast_pow, e] at e1
  exact (cong_iff _ _).2 e1
end Go.Proofs.YthnpbodkcdbckaaDoor
