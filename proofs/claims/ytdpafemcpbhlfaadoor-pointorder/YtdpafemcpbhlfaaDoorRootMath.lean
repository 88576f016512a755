/-
  The walks of filled, Invert, and of the reference's Invert; what they are.
-/
/-
  In a seat that has field.Invert too: what RefR says is said by RefQ.
-/
/-
  Roots modulo p: what Root tries, and Euler's rule. No program.
-/
import Derived.Test.YtdpafemcpbhlfaaDoorRefP
import Derived.Test.YtdpafemcpbhlfaaDoorExpMath
namespace Go.Proofs.YtdpafemcpbhlfaaDoor
set_option maxRecDepth 100000
open Go.RowKit

/-- What filled makes. -/
def fillL (x y : Int) : List Int := ((List.replicate 32 255).set 0 x).set 31 y
theorem fillL_length (x y : Int) : (fillL x y).length = 32 := by simp [fillL]
theorem fillL_digs {x y : Int} (hx : 0 ≤ x ∧ x < 256) (hy : 0 ≤ y ∧ y < 256) : Digs 256 (fillL x y) := by
  intro v hv
  unfold fillL at hv
  rcases List.mem_or_eq_of_mem_set hv with h | rfl
  · rcases List.mem_or_eq_of_mem_set h with h | rfl
    · rw [List.mem_replicate] at h; omega
    · exact hx
  · exact hy
set_option maxHeartbeats 1000000 in
theorem filled_any (x y : Int) (w : World) : Calls Tryd.prog 82 #[.int .u8 x, .int .u8 y] w fun e w' => e = .returned (.agg (numsA .u8 (fillL x y))) ∧ Upd (fun _ => False) w w' := by
  have hz := zeroK_run
  have HF : Hid (fillTo (fun _ => 255) 32 32 = List.replicate 32 255) := by show _ = _; rw [fillTo_all]; decide
  go_enter Tryd.func82, Tryd.ntmps82
  go_wp2
  go_loopw [7] (fun i wr => ∃ k : Nat, k ≤ 32 ∧ i = .int .i64 k ∧ KeyRel w wr w.heap.size (w.heap.size + 1) (fillTo (fun _ => 255) 32 k)) (fun i _ => 32 - (intOf i).toNat)
  case atStart => exact ⟨0, by omega, rfl, ((Upd.refl (fun _ => False) w).alloc _).alloc _, (Blk.at1 w _ _).alloc _, by rw [fillTo_zero]; exact Blk.at2 w _ _ _, fillTo_length _ _ _, by omega, by omega⟩
  case round =>
    obtain ⟨k, hk, rfl, hrel⟩ := hrel
    have hfr := hrel.out.frozen
    by_cases hlt : k < 32
    · have hc := hrel.cell k hlt
      have Hrel := Lib.hid hrel
      clear hrel
      go_wp2
      have := Hrel.out.set k 255
      rw [fillTo_succ (fun _ => 255) 32 k] at this
      exact ⟨⟨k + 1, by omega, by go_num, this⟩, by simp [intOf]; omega⟩
    · obtain rfl : k = 32 := by omega
      rw [HF.out] at hrel
      have hc0 := hrel.cell 0 (by omega)
      have hc31 := hrel.cell 31 (by omega)
      have hr2 := (hrel.set 0 x).set 31 y
      have Hr2 : Hid (KeyRel w _ w.heap.size (w.heap.size + 1) (fillL x y)) := hr2
      have HS : Hid ((numsA .u8 (fillL x y)).size = 32) := by show _ = _; rw [numsA_size, fillL_length]
      have hd32 : decide (((32 : Nat) : Int) < 32) = false := by decide
      clear hrel hr2
      go_wp2_with (first
        | (refine wpList_loadBlk rfl 23 _ rfl (w.heap.size + 1) 0 32 rfl 23 (numsA .u8 (fillL x y)) _ Hr2.out.out Tryd.underlying23 rfl sizeKey (by rw [HS.out]; omega) ?_; rw [extract_all _ _ HS.out])
        | (refine wpList_storeBlk2 rfl 23 _ _ rfl w.heap.size 0 32 rfl (numsA .u8 (fillL x y)) rfl 23 _ Hr2.out.res sizeKey HS.out (by rw [zeroK_size]; omega) (numsA_one _ _) ?_; intro wz hbz huz hzz; rw [splice_all _ _ 32 zeroK_size HS.out] at hbz; have Hbz := Lib.hid hbz; have Huz := Lib.hid huz; clear hbz huz hzz))
      exact bodyPost_ret (v := .agg (numsA .u8 (fillL x y))) (results_cell_row (fn := Tryd.f82) (p := 4) (ty := 23) rfl _ _ w.heap.size 23 _ (0, 0) _ rfl Hbz.out Tryd.underlying23 rfl (by rw [HS.out]; exact sizeKey)) rfl ⟨rfl, Hr2.out.upd.step Huz.out (fun i hi h => by omega)⟩
theorem enterfilled (vs : Array Value) (w : World) : (callFunc 82 vs).run Tryd.prog w = .ok (.enter 82 vs) w := run_enter Tryd.func82 (by kernel_rfl) (by kernel_rfl) vs w
theorem enterPower' (vs : Array Value) (w : World) : (callFunc 81 vs).run Tryd.prog w = .ok (.enter 81 vs) w := run_enter Tryd.func81 (by kernel_rfl) (by kernel_rfl) vs w
theorem enterrPower (vs : Array Value) (w : World) : (callFunc 90 vs).run Tryd.prog w = .ok (.enter 90 vs) w := run_enter Tryd.func90 (by kernel_rfl) (by kernel_rfl) vs w
theorem enterrInvert (vs : Array Value) (w : World) : (callFunc 59 vs).run Tryd.prog w = .ok (.enter 59 vs) w := run_enter Tryd.func59 (by kernel_rfl) (by kernel_rfl) vs w
/-- p - 2. -/
def expInv : Nat := expo (fillL 235 127)
theorem expInv_eq : expInv = (pp - 2).toNat := by decide +kernel
set_option maxRecDepth 100000 in
set_option maxHeartbeats 2000000 in
theorem invert_any (x0 x1 x2 x3 x4 m : Int) (w : World) (hx : Fits x0 x1 x2 x3 x4 m) : Calls Tryd.prog 47 #[.agg #[.int .u64 x0, .int .u64 x1, .int .u64 x2, .int .u64 x3, .int .u64 x4]] w (RetE (m ^ expInv) w) := by
  have HX := Lib.hid hx
  clear hx
  have Hb0 := Lib.hid ((Blk.at1 w #[.int .u64 x0, .int .u64 x1, .int .u64 x2, .int .u64 x3, .int .u64 x4] 39).alloc (.cells #[.int .u64 0, .int .u64 0, .int .u64 0, .int .u64 0, .int .u64 0] 39))
  have Hb1 := Lib.hid (Blk.at2 w (.cells #[.int .u64 x0, .int .u64 x1, .int .u64 x2, .int .u64 x3, .int .u64 x4] 39) #[.int .u64 0, .int .u64 0, .int .u64 0, .int .u64 0, .int .u64 0] 39)
  go_enter Tryd.func47, Tryd.ntmps47
  go_wp2
  refine wp_region_slots #[true, true, true, false] ([.val (.agg #[.int .u64 x0, .int .u64 x1, .int .u64 x2, .int .u64 x3, .int .u64 x4]), .val (.agg (numsA .u8 (fillL 235 127))), .elem (m ^ expo (fillL 235 127))] : List SP) (by kernel_rfl) (by kernel_rfl) (by kernel_rfl) ?_ ?_
  · intro i o listed an wn ho hls hst hun hdep hI K' hK'
    have hi : i < 3 := by
      rcases Nat.lt_or_ge i 3 with h | h
      · exact h
      · exfalso
        have hq : i = 3 ∨ 4 ≤ i := by omega
        rcases hq with rfl | h2
        · cases hst
        · have := idx_lt ho; simp at this; omega
    have hcase : i = 0 ∨ i = 1 ∨ i = 2 := by omega
    rcases hcase with rfl | rfl | rfl
    · obtain rfl := Option.some.inj ho
      exact hI.stepLoad (by kernel_rfl) hls rfl rfl rfl 39 1 rfl (by kernel_rfl) (w.heap.size) 5 rfl 39 (#[.int .u64 x0, .int .u64 x1, .int .u64 x2, .int .u64 x3, .int .u64 x4]) Hb0.out _ Tryd.underlying39 rfl info28 rfl rfl rfl hK'
    · obtain rfl := Option.some.inj ho
      exact hI.stepCall (by kernel_rfl) hls rfl rfl rfl 82 #[.const (.int .u8 235), .const (.int .u8 127)] _ rfl #[.int .u8 235, .int .u8 127] (by simp [Act.eval]) enterfilled (.val (.agg (numsA .u8 (fillL 235 127)))) rfl rfl ((filled_any 235 127 _).mono fun _ _ h => ⟨_, h.1, rfl, h.2⟩) hK'
    · obtain rfl := Option.some.inj ho
      obtain ⟨vp, hvp, hsp⟩ := hI.have 0 _ 3 (.val (.agg #[.int .u64 x0, .int .u64 x1, .int .u64 x2, .int .u64 x3, .int .u64 x4])) rfl rfl rfl (hdep ⟨0, .data⟩ (by simp) rfl)
      obtain rfl := hsp
      obtain ⟨vq, hvq, hsq⟩ := hI.have 1 _ 4 (.val (.agg (numsA .u8 (fillL 235 127)))) rfl rfl rfl (hdep ⟨1, .data⟩ (by simp) rfl)
      obtain rfl := hsq
      exact hI.stepCall (by kernel_rfl) hls rfl rfl rfl 81 #[.tmp 3, .tmp 4] _ rfl #[.agg #[.int .u64 x0, .int .u64 x1, .int .u64 x2, .int .u64 x3, .int .u64 x4], .agg (numsA .u8 (fillL 235 127))] (by simp [eval_of hvp, eval_of hvq]) enterPower' (.elem (m ^ expo (fillL 235 127))) rfl rfl ((power_any x0 x1 x2 x3 x4 m (fillL 235 127) _ HX.out (fillL_length _ _) (fillL_digs (by omega) (by omega))).mono fun _ _ h => h.sp) hK'
  · intro fuel an wn hf hI
    obtain ⟨v0, hv0, hs0⟩ := hI.have 0 _ 3 (.val (.agg #[.int .u64 x0, .int .u64 x1, .int .u64 x2, .int .u64 x3, .int .u64 x4])) rfl rfl rfl rfl
    obtain rfl := hs0
    obtain ⟨v1, hv1, hs1⟩ := hI.have 1 _ 4 (.val (.agg (numsA .u8 (fillL 235 127)))) rfl rfl rfl rfl
    obtain rfl := hs1
    obtain ⟨v2, hv2, e2_0, e2_1, e2_2, e2_3, e2_4, rfl, hF2⟩ := hI.have 2 _ 5 (.elem (m ^ expo (fillL 235 127))) rfl rfl rfl rfl
    have hupd := hI.upd
    have ha := hI.act [(3, .agg #[.int .u64 x0, .int .u64 x1, .int .u64 x2, .int .u64 x3, .int .u64 x4]), (4, .agg (numsA .u8 (fillL 235 127))), (5, .agg #[.int .u64 e2_0, .int .u64 e2_1, .int .u64 e2_2, .int .u64 e2_3, .int .u64 e2_4])] (by simp [hv0, hv1, hv2]) (by kernel_rfl)
    clear hI hv0 hv1 hv2
    subst ha
    simp only [List.foldl_cons, List.foldl_nil, List.setIfInBounds_toArray, List.set_cons_zero, List.set_cons_succ]
    have hf0 : left #[true, true, true, false] 4 = 1 := by kernel_rfl
    have hf1 : left #[true, true, true, false] 4 ≤ fuel := hf
    obtain ⟨fu, rfl⟩ : ∃ fu, fuel = fu + 1 := ⟨fuel - 1, by omega⟩
    clear hf hf0 hf1
    refine wpAny_ready (rs := [3]) (by kernel_rfl) (by simp) (AllReady.cons rfl (fun K hK => ?_) AllReady.nil)
    refine step_storeBlk2 rfl 39 (.tmp 2) (.tmp 5) rfl (w.heap.size + 1) 0 5 rfl (#[.int .u64 e2_0, .int .u64 e2_1, .int .u64 e2_2, .int .u64 e2_3, .int .u64 e2_4]) rfl 39 (#[.int .u64 0, .int .u64 0, .int .u64 0, .int .u64 0, .int .u64 0]) (hupd.blk (show Blk _ _ _ _ from Hb1.out) (fun h => h)) info28 rfl (by simp) (one5 _ _ _ _ _) ?_
    intro ws0 hs0 hus0 _
    rw [splice_all _ _ 5 rfl rfl] at hs0
    refine hK _ _ ?_
    clear hK K
    dsimp only [Act.put]
    refine wpAny_done (by kernel_rfl) ?_ _
    go_wp2
    exact bodyPost_ret (v := .agg #[.int .u64 e2_0, .int .u64 e2_1, .int .u64 e2_2, .int .u64 e2_3, .int .u64 e2_4]) (results_cell_row (fn := Tryd.f47) (p := 2) (ty := 39) rfl _ _ (w.heap.size + 1) 39 _ (0, 0) _ rfl hs0 Tryd.underlying39 rfl info28) rfl ⟨_, _, _, _, _, hF2, rfl, ((((Upd.refl (fun _ => False) w).alloc _).alloc _).drew.trans hupd).step hus0 (fun i hi h => by omega)⟩
theorem minus2_le : dig 65536 (digits 65536 16 2) ≤ dig 65536 (digits 65536 16 pp) := by decide +kernel
theorem minus2_eq : numsA .u64 (digits 65536 16 (dig 65536 (digits 65536 16 pp) - dig 65536 (digits 65536 16 2))) = numN (pp - 2) := by
  rw [dig16 pp (by decide) (by decide), dig16 2 (by decide) (by decide)]
  rfl
set_option maxRecDepth 100000 in
set_option maxHeartbeats 2000000 in
theorem rInvert_any (u m : Int) (w : World) (hu : NumOk u m) : Calls Tryd.prog 59 #[.agg (numN u)] w (RetN (m ^ expInv) w) := by
  have hz := zeroN_run
  have HU := Lib.hid hu
  clear hu
  have Hb0 := Lib.hid ((Blk.at1 w (numN u) 45).alloc (.cells zeroN 45))
  have Hb1 := Lib.hid (Blk.at2 w (.cells (numN u) 45) zeroN 45)
  go_enter Tryd.func59, Tryd.ntmps59
  go_wp2
  refine wp_region_slots #[true, true, true, true, true, false] ([.val (.agg (numN u)), .val (.agg (numN pp)), .val (.agg (numN (2))), .val (.agg (numN (pp - 2))), .like (LikeN (m ^ expInv))] : List SP) (by kernel_rfl) (by kernel_rfl) (by kernel_rfl) ?_ ?_
  · intro i o listed an wn ho hls hst hun hdep hI K' hK'
    have hi : i < 5 := by
      rcases Nat.lt_or_ge i 5 with h | h
      · exact h
      · exfalso
        have hq : i = 5 ∨ 6 ≤ i := by omega
        rcases hq with rfl | h2
        · cases hst
        · have := idx_lt ho; simp at this; omega
    have hcase : i = 0 ∨ i = 1 ∨ i = 2 ∨ i = 3 ∨ i = 4 := by omega
    rcases hcase with rfl | rfl | rfl | rfl | rfl
    · obtain rfl := Option.some.inj ho
      exact hI.stepLoad (by kernel_rfl) hls rfl rfl rfl 45 1 rfl (by kernel_rfl) (w.heap.size) 16 rfl 45 (numN u) Hb0.out _ Tryd.underlying45 rfl sizeNum (numN_size _) rfl rfl hK'
    · obtain rfl := Option.some.inj ho
      exact hI.stepCall (by kernel_rfl) hls rfl rfl rfl 92 #[] _ rfl #[] (by simp) enterrPrime (.val (.agg (numN pp))) rfl rfl ((rPrime_any _).mono fun _ _ h => ⟨_, h.1, rfl, h.2⟩) hK'
    · obtain rfl := Option.some.inj ho
      exact hI.stepCall (by kernel_rfl) hls rfl rfl rfl 54 #[.const (.int .u64 2)] _ rfl #[.int .u64 2] (by simp [Act.eval]) enterrSmall (.val (.agg (numN (2)))) rfl rfl ((rSmall_any (2) _ (by omega) (by omega)).mono fun _ _ h => ⟨_, h.1, rfl, h.2⟩) hK'
    · obtain rfl := Option.some.inj ho
      obtain ⟨vp, hvp, hsp⟩ := hI.have 1 _ 4 (.val (.agg (numN pp))) rfl rfl rfl (hdep ⟨1, .data⟩ (by simp) rfl)
      obtain rfl := hsp
      obtain ⟨vq, hvq, hsq⟩ := hI.have 2 _ 5 (.val (.agg (numN (2)))) rfl rfl rfl (hdep ⟨2, .data⟩ (by simp) rfl)
      obtain rfl := hsq
      exact hI.stepCall (by kernel_rfl) hls rfl rfl rfl 91 #[.tmp 4, .tmp 5] _ rfl #[.agg (numN pp), .agg (numN (2))] (by simp [eval_of hvp, eval_of hvq]) enterrminus (.val (.agg (numN (pp - 2)))) rfl rfl ((rminus_any _ _ _ (digits_length _ _ _) (digits_length _ _ _) (digs16 pp) (digs16 2) minus2_le).mono fun _ _ h => ⟨_, h.1.trans (congrArg (fun b => Ending.returned (.agg b)) minus2_eq), rfl, h.2⟩) hK'
    · obtain rfl := Option.some.inj ho
      obtain ⟨vp, hvp, hsp⟩ := hI.have 0 _ 3 (.val (.agg (numN u))) rfl rfl rfl (hdep ⟨0, .data⟩ (by simp) rfl)
      obtain rfl := hsp
      obtain ⟨vq, hvq, hsq⟩ := hI.have 3 _ 6 (.val (.agg (numN (pp - 2)))) rfl rfl rfl (hdep ⟨3, .data⟩ (by simp) rfl)
      obtain rfl := hsq
      exact hI.stepCall (by kernel_rfl) hls rfl rfl rfl 90 #[.tmp 3, .tmp 6] _ rfl #[.agg (numN u), .agg (numN (pp - 2))] (by simp [eval_of hvp, eval_of hvq]) enterrPower (.like (LikeN (m ^ expInv))) rfl rfl ((rPower_any u m (pp - 2) _ HU.out (by decide) (by decide)).mono fun _ _ h => by rw [← expInv_eq] at h; exact h.sp) hK'
  · intro fuel an wn hf hI
    obtain ⟨v0, hv0, hs0⟩ := hI.have 0 _ 3 (.val (.agg (numN u))) rfl rfl rfl rfl
    obtain rfl := hs0
    obtain ⟨v1, hv1, hs1⟩ := hI.have 1 _ 4 (.val (.agg (numN pp))) rfl rfl rfl rfl
    obtain rfl := hs1
    obtain ⟨v2, hv2, hs2⟩ := hI.have 2 _ 5 (.val (.agg (numN (2)))) rfl rfl rfl rfl
    obtain rfl := hs2
    obtain ⟨v3, hv3, hs3⟩ := hI.have 3 _ 6 (.val (.agg (numN (pp - 2)))) rfl rfl rfl rfl
    obtain rfl := hs3
    obtain ⟨v4, hv4, r4_, rfl, hN4⟩ := hI.have 4 _ 7 (.like (LikeN (m ^ expInv))) rfl rfl rfl rfl
    have hupd := hI.upd
    have ha := hI.act [(3, .agg (numN u)), (4, .agg (numN pp)), (5, .agg (numN (2))), (6, .agg (numN (pp - 2))), (7, .agg (numN r4_))] (by simp [hv0, hv1, hv2, hv3, hv4]) (by kernel_rfl)
    clear hI hv0 hv1 hv2 hv3 hv4
    subst ha
    simp only [List.foldl_cons, List.foldl_nil, List.setIfInBounds_toArray, List.set_cons_zero, List.set_cons_succ]
    have hf0 : left #[true, true, true, true, true, false] 6 = 1 := by kernel_rfl
    have hf1 : left #[true, true, true, true, true, false] 6 ≤ fuel := hf
    obtain ⟨fu, rfl⟩ : ∃ fu, fuel = fu + 1 := ⟨fuel - 1, by omega⟩
    clear hf hf0 hf1
    refine wpAny_ready (rs := [5]) (by kernel_rfl) (by simp) (AllReady.cons rfl (fun K hK => ?_) AllReady.nil)
    refine step_storeBlk2 rfl 45 (.tmp 2) (.tmp 7) rfl (w.heap.size + 1) 0 16 rfl (numN r4_) rfl 45 zeroN (hupd.blk (show Blk _ _ _ _ from Hb1.out) (fun h => h)) sizeNum (numN_size _) (by rw [zeroN_size]; omega) (numsA_one _ _) ?_
    intro ws0 hs0 hus0 _
    rw [splice_all _ _ 16 zeroN_size (numN_size _)] at hs0
    refine hK _ _ ?_
    clear hK K
    dsimp only [Act.put]
    refine wpAny_done (by kernel_rfl) ?_ _
    go_wp2
    exact bodyPost_ret (v := .agg (numN r4_)) (results_cell_row (fn := Tryd.f59) (p := 2) (ty := 45) rfl _ _ (w.heap.size + 1) 45 _ (0, 0) _ rfl hs0 Tryd.underlying45 rfl (by rw [numN_size]; exact sizeNum)) rfl ⟨r4_, hN4, rfl, ((((Upd.refl (fun _ => False) w).alloc _).alloc _).drew.trans hupd).step hus0 (fun i hi h => by omega)⟩
/-- A number times what is one divided by it is one, but for nought. -/
theorem cong_zero {m : Int} (h : m % pp = 0) : Cong m 0 := (cong_iff m 0).2 (by rw [h]; decide)
theorem inv_zero {m : Int} (h : m % pp = 0) : Cong (m ^ expInv) 0 := by
  have h1 := (cong_zero h).pow expInv
  rw [show (0 : Int) ^ expInv = 0 from Int.zero_pow (by rw [expInv_eq]; decide)] at h1
  exact h1
theorem inv_one {m : Int} (h : m % pp ≠ 0) : Cong (m * m ^ expInv) 1 := by
  have hm0 : 0 ≤ m % pp := Int.emod_nonneg _ (by decide)
  obtain ⟨a, ha⟩ : ∃ a : Nat, m % pp = (a : Int) := ⟨(m % pp).toNat, by omega⟩
  have h1 : Cong m a := by rw [← ha]; exact (Cong.mod m).symm
  obtain ⟨p, hp, e⟩ := prime_pp
  have hlt := Int.emod_lt_of_pos m pp_pos
  have hnd : ¬ p ∣ a := fun hd => by
    have : p ≤ a := Nat.le_of_dvd (by omega) hd
    omega
  have hf := fermat_one hp hnd
  have e2 : expInv + 1 = p - 1 := by rw [expInv_eq, show p = pp.toNat by omega]; decide +kernel
  have h2 : m * m ^ expInv = m ^ (p - 1) := by rw [← e2, Int.pow_succ, Int.mul_comm]
  rw [h2]
  refine (h1.pow (p - 1)).trans ?_
  have e1 : ((a ^ (p - 1) % p : Nat) : Int) = ((1 % p : Nat) : Int) := by rw [hf]
  rw [Int.natCast_emod, Int.natCast_emod, Int.natCast_pow, e] at e1
  exact (cong_iff _ _).2 e1
end Go.Proofs.YtdpafemcpbhlfaaDoor
namespace Go.Proofs.YtdpafemcpbhlfaaDoor
set_option maxRecDepth 100000
end Go.Proofs.YtdpafemcpbhlfaaDoor
namespace Go.Proofs.YtdpafemcpbhlfaaDoor
set_option maxRecDepth 100000

theorem Cong.mod_eq {m n : Int} (h : Cong m n) : m % pp = n % pp := (cong_iff m n).1 h
theorem cong_zero_iff (m : Int) : Cong m 0 ↔ m % pp = 0 := by
  rw [cong_iff]
  rw [show (0 : Int) % pp = 0 by decide]
/-- p is prime: a product is nought just if a factor is. -/
theorem cong_mul_zero {a b : Int} (h : Cong (a * b) 0) : Cong a 0 ∨ Cong b 0 := by
  by_cases ha : a % pp = 0
  · exact Or.inl (cong_zero ha)
  · right
    have h1 := (Cong.refl (a ^ expInv)).mul h
    rw [Int.mul_zero] at h1
    have h2 : a ^ expInv * (a * b) = a * a ^ expInv * b := by rw [← Int.mul_assoc, Int.mul_comm (a ^ expInv) a]
    rw [h2] at h1
    have h3 := (inv_one ha).mul (Cong.refl b)
    rw [Int.one_mul] at h3
    exact h3.symm.trans h1
theorem cong_sq {a b : Int} (h : Cong (a * a) (b * b)) : Cong a b ∨ Cong a (-b) := by
  have h1 : Cong ((a - b) * (a + b)) 0 := by
    have := h.sub (Cong.refl (b * b))
    rw [Int.sub_self] at this
    have e : (a - b) * (a + b) = a * a - b * b := by rw [Int.sub_mul, Int.mul_add, Int.mul_add, Int.mul_comm b a]; omega
    rw [e]; exact this
  rcases cong_mul_zero h1 with h2 | h2
  · left; have := h2.add (Cong.refl b); rw [Int.zero_add, Int.sub_add_cancel] at this; exact this
  · right; have := h2.sub (Cong.refl b); rw [Int.zero_sub, Int.add_sub_cancel] at this; exact this
/-- What Root tries first. -/
def candV (m n : Int) : Int := m * (n * n * n) * (m * (n * n * n * (n * n * n) * n)) ^ expo (fillL 253 15)
/-- A root of -1. -/
def iV : Int := 2 ^ expo (fillL 251 31)
def evenV (z : Int) : Int := if z % pp % 2 = 1 then -z else z
/-- Its square times n. -/
def sqV (m n : Int) : Int := n * candV m n * candV m n
def rootB (m n : Int) : Bool := decide (sqV m n % pp = m % pp) || decide (sqV m n % pp = -m % pp)
def rootV (m n : Int) : Int := if sqV m n % pp = m % pp then evenV (candV m n) else if sqV m n % pp = -m % pp then evenV (candV m n * iV) else 0
theorem e8 : expo (fillL 253 15) * 8 + 5 = (pp).toNat := by decide +kernel
theorem e4 : expo (fillL 251 31) * 4 + 1 = (pp).toNat := by decide +kernel
theorem e2 : (pp / 2).toNat * 2 + 1 = (pp).toNat := by decide +kernel
theorem eInv : expInv + 2 = (pp).toNat := by rw [expInv_eq]; decide +kernel
theorem iV_sq : Cong (iV * iV) (-1) := by
  have h : 2 ^ (pp / 2).toNat % pp.toNat = (pp.toNat - 1) % pp.toNat := pm_pow (f := 255) (by decide +kernel) (by decide +kernel)
  have e : iV * iV = ((2 ^ (pp / 2).toNat : Nat) : Int) := by
    unfold iV
    have e3 : expo (fillL 251 31) + expo (fillL 251 31) = (pp / 2).toNat := by
      have h1 := e4
      have h2 := e2
      omega
    rw [← Int.pow_add, e3, Int.natCast_pow]
    rfl
  rw [e, cong_iff]
  have h2 : ((2 ^ (pp / 2).toNat % pp.toNat : Nat) : Int) = (((pp.toNat - 1) % pp.toNat : Nat) : Int) := by rw [h]
  rw [Int.natCast_emod] at h2
  rw [show ((pp.toNat : Nat) : Int) = pp by decide +kernel] at h2
  rw [h2]
  decide +kernel
/-- Fermat: to the power p - 1. -/
theorem cong_full {m : Int} (h : m % pp ≠ 0) {k : Nat} (hk : k + 1 = pp.toNat) : Cong (m ^ k) 1 := by
  have h1 := inv_one h
  have e : k = expInv + 1 := by have := eInv; omega
  rw [e, Int.pow_succ, Int.mul_comm]
  exact h1
/-- s: the square is m times a fourth root of one. -/
def sV (m n : Int) : Int := (m * (n * n * n * (n * n * n) * n)) ^ expo (fillL 251 31)
theorem sqV_eq (m n : Int) : sqV m n = m * sV m n := by
  have e : expo (fillL 251 31) = expo (fillL 253 15) * 2 + 1 := by have h1 := e8; have h2 := e4; omega
  unfold sqV sV candV
  rw [e, Int.pow_succ, Int.pow_mul]
  rw [show ∀ z : Int, z ^ 2 = z * z from fun z => by rw [Int.pow_succ, Int.pow_succ, Int.pow_zero, Int.one_mul]]
  generalize (m * (n * n * n * (n * n * n) * n)) ^ expo (fillL 253 15) = t
  grind
theorem sV_sq (m n : Int) (hn : n % pp ≠ 0) : Cong (sV m n * sV m n) ((m * n ^ expInv) ^ (pp / 2).toNat) := by
  have e : expo (fillL 251 31) + expo (fillL 251 31) = (pp / 2).toNat := by have h1 := e2; have h2 := e4; omega
  have e1 : sV m n * sV m n = (m * (n * n * n * (n * n * n) * n)) ^ (pp / 2).toNat := by
    unfold sV
    rw [← Int.pow_add, e]
  rw [e1]
  have h8 : Cong (m * (n * n * n * (n * n * n) * n)) (m * n ^ expInv * ((n * n * n * n) * (n * n * n * n))) := by
    have h1 := inv_one hn
    have h2 := (Cong.refl (m * (n * n * n * (n * n * n) * n))).mul h1
    rw [Int.mul_one] at h2
    refine h2.symm.trans ?_
    have : m * (n * n * n * (n * n * n) * n) * (n * n ^ expInv) = m * n ^ expInv * ((n * n * n * n) * (n * n * n * n)) := by
      generalize n ^ expInv = q
      grind
    rw [this]
    exact Cong.refl _
  refine (h8.pow _).trans ?_
  rw [Int.mul_pow]
  have h4 : (n * n * n * n) % pp ≠ 0 := fun h => by
    rcases cong_mul_zero (cong_zero h) with h1 | h1
    · rcases cong_mul_zero h1 with h1 | h1
      · rcases cong_mul_zero h1 with h1 | h1
        · exact hn ((cong_zero_iff n).1 h1)
        · exact hn ((cong_zero_iff n).1 h1)
      · exact hn ((cong_zero_iff n).1 h1)
    · exact hn ((cong_zero_iff n).1 h1)
  have h5 : Cong (((n * n * n * n) * (n * n * n * n)) ^ (pp / 2).toNat) 1 := by
    have e3 : ((n * n * n * n) * (n * n * n * n)) ^ (pp / 2).toNat = (n * n * n * n) ^ ((pp / 2).toNat * 2) := by
      rw [Nat.mul_comm, Int.pow_mul]
      congr 1
      rw [Int.pow_succ, Int.pow_succ, Int.pow_zero, Int.one_mul]
    rw [e3]
    exact cong_full h4 e2
  have := (Cong.refl ((m * n ^ expInv) ^ (pp / 2).toNat)).mul h5
  rw [Int.mul_one] at this
  exact this
theorem euler_sq (t : Int) (h : t % pp ≠ 0) : Cong (t ^ (pp / 2).toNat) 1 ∨ Cong (t ^ (pp / 2).toNat) (-1) := by
  apply cong_sq
  rw [← Int.pow_add, Int.mul_one]
  exact cong_full h (by have := e2; omega)
/-- Euler's rule, as the reference has it. -/
def eulerB (t : Int) : Bool := decide (t ^ (pp / 2).toNat % pp = 0) || decide (t ^ (pp / 2).toNat % pp = 1)
theorem pow_zero_cong {m : Int} (h : m % pp = 0) {k : Nat} (hk : 0 < k) : Cong (m ^ k) 0 := by
  have h1 := (cong_zero h).pow k
  rw [Int.zero_pow (by omega)] at h1
  exact h1
theorem not_cong_neg {m : Int} (h : m % pp ≠ 0) : ¬ Cong m (-m) := fun hc => by
  have h1 := hc.add (Cong.refl m)
  rw [Int.add_left_neg] at h1
  have h2 : Cong (2 * m) 0 := by rw [show 2 * m = m + m by omega]; exact h1
  rcases cong_mul_zero h2 with h3 | h3
  · exact absurd ((cong_zero_iff 2).1 h3) (by decide)
  · exact h ((cong_zero_iff m).1 h3)
theorem mod_neg_iff (m n : Int) : m % pp = -n % pp ↔ Cong m (-n) := (cong_iff m (-n)).symm
/-- There is a root just if Euler's rule says so. -/
theorem rootB_euler (m n : Int) (hn : n % pp ≠ 0) : rootB m n = eulerB (m * n ^ expInv) := by
  by_cases hm : m % pp = 0
  · have h1 : Cong (sqV m n) m := by
      rw [sqV_eq]
      have := (cong_zero hm).mul (Cong.refl (sV m n))
      rw [Int.zero_mul] at this
      exact this.trans (cong_zero hm).symm
    have h2 : Cong ((m * n ^ expInv) ^ (pp / 2).toNat) 0 := by
      have h3 := (cong_zero hm).mul (Cong.refl (n ^ expInv))
      rw [Int.zero_mul] at h3
      exact pow_zero_cong ((cong_zero_iff _).1 h3) (by decide +kernel)
    unfold rootB eulerB
    rw [h1.mod_eq, (cong_zero_iff _).1 h2]
    simp
  · have hs2 := sV_sq m n hn
    have ht : (m * n ^ expInv) % pp ≠ 0 := fun h => by
      rcases cong_mul_zero (cong_zero h) with h1 | h1
      · exact hm ((cong_zero_iff m).1 h1)
      · have h3 := (Cong.refl n).mul h1
        rw [Int.mul_zero] at h3
        have h4 := (inv_one hn).symm.trans h3
        exact absurd ((cong_zero_iff 1).1 h4) (by decide)
    have hz : ¬ (m * n ^ expInv) ^ (pp / 2).toNat % pp = 0 := fun h => by
      rcases euler_sq _ ht with h1 | h1
      · rw [h1.mod_eq] at h; exact absurd h (by decide)
      · rw [h1.mod_eq] at h; exact absurd h (by decide)
    rcases euler_sq _ ht with he | he
    · have hs : Cong (sV m n * sV m n) (1 * 1) := by rw [Int.one_mul]; exact hs2.trans he
      have hr : eulerB (m * n ^ expInv) = true := by
        unfold eulerB
        rw [he.mod_eq]
        decide
      rw [hr]
      unfold rootB
      rw [sqV_eq]
      rcases cong_sq hs with h1 | h1
      · have := (Cong.refl m).mul h1
        rw [Int.mul_one] at this
        simp [this.mod_eq]
      · have := (Cong.refl m).mul h1
        rw [Int.mul_neg, Int.mul_one] at this
        simp [this.mod_eq]
    · have hr : eulerB (m * n ^ expInv) = false := by
        unfold eulerB
        rw [he.mod_eq]
        decide
      rw [hr]
      have hb : ∀ c : Int, Cong (c * c) 1 → ¬ Cong (m * sV m n) (m * c) := fun c hc h => by
        have h1 : Cong (m * (sV m n - c)) 0 := by
          have := h.sub (Cong.refl (m * c))
          rw [Int.sub_self, ← Int.mul_sub] at this
          exact this
        rcases cong_mul_zero h1 with h2 | h2
        · exact hm ((cong_zero_iff m).1 h2)
        · have h3 : Cong (sV m n) c := by have := h2.add (Cong.refl c); rw [Int.zero_add, Int.sub_add_cancel] at this; exact this
          have h4 := (h3.mul h3).trans hc
          have h5 := (hs2.trans he).symm.trans h4
          exact absurd h5.mod_eq (by decide)
      unfold rootB
      rw [sqV_eq, Bool.or_eq_false_iff]
      refine ⟨decide_eq_false fun h => ?_, decide_eq_false fun h => ?_⟩
      · refine hb 1 (Cong.refl _) ?_
        rw [Int.mul_one]
        exact (cong_iff _ _).2 h
      · refine hb (-1) (Cong.refl _) ?_
        rw [Int.mul_neg, Int.mul_one]
        exact (cong_iff _ _).2 h
theorem neg_mod (z : Int) (h : z % pp ≠ 0) : -z % pp = pp - z % pp := by
  have h0 := Int.emod_nonneg z (b := pp) (by decide)
  have h1 := Int.emod_lt_of_pos z pp_pos
  have e := Int.mul_ediv_add_emod z pp
  have : -z = (pp - z % pp) + pp * (-(z / pp) - 1) := by rw [Int.mul_sub, Int.mul_neg]; omega
  rw [this, Int.add_mul_emod_self_left]
  exact Int.emod_eq_of_lt (by omega) (by omega)
theorem evenV_even (z : Int) : evenV z % pp % 2 ≠ 1 := by
  unfold evenV
  split
  · next h =>
    have hz : z % pp ≠ 0 := fun h2 => by rw [h2] at h; omega
    rw [neg_mod z hz]
    have : pp % 2 = 1 := by decide
    omega
  · next h => exact h
theorem evenV_sq (z : Int) : evenV z * evenV z = z * z := by
  unfold evenV
  split
  · rw [Int.neg_mul_neg]
  · rfl
/-- What is found is a root. -/
theorem rootV_root (m n : Int) (h : rootB m n = true) : Cong (rootV m n * rootV m n * n) m := by
  unfold rootB at h
  unfold rootV
  split
  · next h1 =>
    rw [evenV_sq]
    have : candV m n * candV m n * n = sqV m n := by unfold sqV; generalize candV m n = c; grind
    rw [this]
    exact (cong_iff _ _).2 h1
  · next h1 =>
    rw [decide_eq_false h1, Bool.false_or, decide_eq_true_iff] at h
    rw [if_pos h, evenV_sq]
    have : candV m n * iV * (candV m n * iV) * n = sqV m n * (iV * iV) := by unfold sqV; generalize candV m n = c; generalize iV = i; grind
    rw [this]
    have h2 := ((cong_iff _ _).2 h).mul iV_sq
    rw [Int.neg_mul_neg, Int.mul_one] at h2
    exact h2
theorem rootV_even (m n : Int) : rootV m n % pp % 2 ≠ 1 := by
  unfold rootV
  split
  · exact evenV_even _
  · split
    · exact evenV_even _
    · decide
theorem rootV_none (m n : Int) (h : rootB m n = false) : rootV m n = 0 := by
  unfold rootB at h
  rw [Bool.or_eq_false_iff, decide_eq_false_iff_not, decide_eq_false_iff_not] at h
  unfold rootV
  rw [if_neg h.1, if_neg h.2]
/-- Nothing times n is m but for nought, if n is nought. -/
theorem root_zero (m n : Int) (hn : n % pp = 0) : rootB m n = decide (m % pp = 0) ∧ rootV m n % pp = 0 := by
  have hc : Cong (candV m n) 0 := by
    unfold candV
    have h1 : Cong (n * n * n) 0 := by
      have := ((cong_zero hn).mul (cong_zero hn)).mul (cong_zero hn)
      simpa using this
    have := ((Cong.refl m).mul h1).mul (Cong.refl ((m * (n * n * n * (n * n * n) * n)) ^ expo (fillL 253 15)))
    rw [Int.mul_zero, Int.zero_mul] at this
    exact this
  have hs : sqV m n % pp = 0 := by
    unfold sqV
    have := ((cong_zero hn).mul hc).mul hc
    simp only [Int.mul_zero] at this
    exact (cong_zero_iff _).1 this
  have hm : (-m % pp = 0) ↔ (m % pp = 0) := by
    constructor
    · intro h
      by_cases hz : m % pp = 0
      · exact hz
      · rw [neg_mod m hz] at h
        have := Int.emod_lt_of_pos m pp_pos
        omega
    · intro h
      have h2 := (Cong.refl 0).sub (cong_zero h)
      rw [Int.zero_sub, Int.sub_zero] at h2
      exact (cong_zero_iff _).1 h2
  have hev : ∀ z, Cong z 0 → evenV z % pp = 0 := fun z hz => by
    unfold evenV
    rw [(cong_zero_iff z).1 hz, if_neg (by omega)]
    exact (cong_zero_iff z).1 hz
  constructor
  · unfold rootB
    rw [hs]
    by_cases h : m % pp = 0
    · simp [h]
    · have h2 : ¬ (-m % pp = 0) := fun g => h (hm.1 g)
      rw [decide_eq_false (fun g : (0 : Int) = m % pp => h g.symm), decide_eq_false (fun g : (0 : Int) = -m % pp => h2 g.symm), decide_eq_false h]
      rfl
  · unfold rootV
    split
    · exact hev _ hc
    · split
      · refine hev _ ?_
        have := hc.mul (Cong.refl iV)
        rw [Int.zero_mul] at this
        exact this
      · decide
end Go.Proofs.YtdpafemcpbhlfaaDoor
