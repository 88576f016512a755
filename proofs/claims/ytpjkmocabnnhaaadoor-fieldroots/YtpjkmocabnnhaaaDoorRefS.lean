/-
  The reference's half, Square and IsRoot.
-/
import Derived.Test.YtpjkmocabnnhaaaDoorRootMath
import Derived.Test.YtpjkmocabnnhaaaDoorLate
namespace Go.Proofs.YtpjkmocabnnhaaaDoor
open Go.RowKit

/-- The digits of a half, those from k on. -/
structure HalfR (A D : List Int) (k : Nat) (c : Int) : Prop where
  len : D.length = 16
  digs : Digs 65536 D
  low : ∀ j, j < k → D.getD j 0 = 0
  c0 : 0 ≤ c
  c1 : c ≤ 1
  eq : 2 * dig 65536 D + 65536 ^ k * c = dig 65536 A - part A k
theorem HalfR.start (A : List Int) (hA : A.length = 16) : HalfR A (List.replicate 16 0) 16 0 :=
  ⟨by simp, (fun x hx => by rw [List.mem_replicate] at hx; omega), (fun j _ => getD_zeros 16 j), by omega, by omega, by rw [part_all A hA, Int.sub_self, Int.mul_zero, Int.add_zero]; decide⟩
theorem HalfR.step {A D : List Int} {k : Nat} {c : Int} (h : HalfR A D (k + 1) c) (hk : k < 16) (hA : Digs 65536 A) : HalfR A (D.set k ((A.getD k 0 + c * 65536) / 2)) k ((A.getD k 0 + c * 65536) % 2) := by
  have ha := hA.get (B := 65536) (by omega) k
  have h0 := h.c0
  have h1 := h.c1
  refine ⟨by rw [List.length_set]; exact h.len, fun x hx => ?_, fun j hj => by rw [getD_set_ne _ _ _ _ (by omega)]; exact h.low j (by omega), by omega, by omega, ?_⟩
  · rcases List.mem_or_eq_of_mem_set hx with g | g
    · exact h.digs x g
    · omega
  · have he := h.eq
    rw [part_succ _ _ hk, Int.pow_succ] at he
    rw [dig_set _ _ _ _ (by rw [h.len]; exact hk), h.low k (by omega), Int.sub_zero]
    generalize A.getD k 0 = a at *
    generalize (65536 : Int) ^ k = z at *
    have e1 := Int.mul_ediv_add_emod (a + c * 65536) 2
    generalize (a + c * 65536) / 2 = q at *
    generalize (a + c * 65536) % 2 = r at *
    have e2 : z * (a + c * 65536) = 2 * (z * q) + z * r := by
      rw [← e1, Int.mul_add, ← Int.mul_assoc, ← Int.mul_assoc, Int.mul_comm z 2, Int.mul_assoc]
    rw [Int.mul_add, ← Int.mul_assoc, Int.mul_comm (z * c) 65536] at e2
    rw [Int.mul_assoc, Int.mul_left_comm] at he
    omega
theorem HalfR.done {A D : List Int} {c : Int} (h : HalfR A D 0 c) : D = digits 65536 16 (dig 65536 A / 2) := by
  have he := h.eq
  have h0 := h.c0
  have h1 := h.c1
  rw [part_zero, Int.pow_zero] at he
  have : dig 65536 D = dig 65536 A / 2 := by omega
  rw [← this, ← h.len, digits_dig (by omega) h.digs]
/-- half's blocks: its argument, its result, what it makes. -/
structure HRel (w wr : World) (u : Int) (D : List Int) : Prop where
  upd : Upd (fun _ => False) w wr
  a : Blk wr w.heap.size 31 (numN u)
  res : Blk wr (w.heap.size + 1) 31 zeroN
  d : Blk wr (w.heap.size + 1 + 1) 31 (numsA .u64 D)
theorem HRel.set {w wr : World} {u : Int} {D : List Int} (h : HRel w wr u D) (j : Nat) (x : Int) : HRel w (wr.setCell ⟨w.heap.size + 1 + 1, j, none⟩ (.int .u64 x)) u (D.set j x) := by
  refine ⟨h.upd.set _ (fun hb => absurd hb (show ¬ w.heap.size + 1 + 1 < w.heap.size by omega)), h.a.setOther (show w.heap.size ≠ w.heap.size + 1 + 1 by omega) _, h.res.setOther (show w.heap.size + 1 ≠ w.heap.size + 1 + 1 by omega) _, ?_⟩
  rw [← numsA_set]
  exact h.d.set j _
set_option maxHeartbeats 2000000 in
theorem rhalf_any (u : Int) (w : World) (h0 : 0 ≤ u) (h1 : u < 115792089237316195423570985008687907853269984665640564039457584007913129639936) : Calls Tryd.prog 44 #[.agg (numN u)] w fun e w' => e = .returned (.agg (numN (u / 2))) ∧ Upd (fun _ => False) w w' := by
  have hz := zeroN_run
  have HU := Lib.hid (dig16 u h0 h1)
  have HG := Lib.hid (digs16 u)
  clear h0 h1
  go_enter Tryd.func44, Tryd.ntmps44
  go_wp2_with (refine wpList_storeBlk2 rfl 31 _ _ rfl (w.heap.size + 1 + 1) 0 16 rfl zeroN rfl 31 zeroN (Blk.at3 w _ _ _ _) sizeNum zeroN_size (by rw [zeroN_size]; omega) (numsA_one _ _) ?_; intro w1 hb1 hu1 hz1; rw [splice_all _ _ 16 zeroN_size zeroN_size] at hb1; have HR : Hid (HRel w w1 u (List.replicate 16 0)) := ⟨((((Upd.refl (fun _ => False) w).alloc _).alloc _).alloc _).step hu1 (fun i hi h => by omega), hu1.blk (((Blk.at1 w _ _).alloc _).alloc _) (show ¬ w.heap.size = w.heap.size + 1 + 1 by omega), hu1.blk ((Blk.at2 w _ _ _).alloc _) (show ¬ w.heap.size + 1 = w.heap.size + 1 + 1 by omega), hb1⟩; clear hb1 hu1 hz1)
  go_loopw [4, 5] (fun c i wr => ∃ (k : Nat) (D : List Int) (cc : Int), k ≤ 16 ∧ i = .int .i64 ((k : Int) - 1) ∧ c = .int .u64 cc ∧ HRel w wr u D ∧ HalfR (digits 65536 16 u) D k cc) (fun _ i _ => (intOf i + 1).toNat)
  case atStart => exact ⟨16, _, 0, by omega, rfl, rfl, HR.out, HalfR.start _ (digits_length _ _ _)⟩
  case round =>
    clear HR
    obtain ⟨k, D, cc, hk, rfl, rfl, hrel, hhalf⟩ := hrel
    have hfr := hrel.d.frozen
    by_cases hlt : 0 < k
    · obtain ⟨j, rfl⟩ : ∃ j, k = j + 1 := ⟨k - 1, by omega⟩
      have e1 : ((j + 1 : Nat) : Int) - 1 = (j : Int) := by omega
      rw [e1]
      have c1 : wr.cell? ⟨w.heap.size, j, none⟩ = some (.int .u64 ((digits 65536 16 u).getD j 0)) := by rw [hrel.a.cell]; unfold numN; rw [numsA_get _ _ _ (by rw [digits_length]; omega)]
      have c2 : wr.cell? ⟨w.heap.size + 1 + 1, j, none⟩ = some (.int .u64 (D.getD j 0)) := by rw [hrel.d.cell, numsA_get _ _ _ (by rw [hhalf.len]; omega)]
      have ha := HG.out.get (B := 65536) (by omega) j
      have hc0 := hhalf.c0
      have hc1 := hhalf.c1
      have Hrel := Lib.hid hrel
      have Hnext := Lib.hid (hhalf.step (by omega) HG.out)
      generalize (digits 65536 16 u).getD j 0 = x at *
      clear hrel hhalf e1 hlt
      go_wp2
      exact ⟨⟨j, _, _, by omega, rfl, rfl, Hrel.out.set j _, Hnext.out⟩, by simp [intOf]⟩
    · obtain rfl : k = 0 := by omega
      have hzz : decide ((0 : Int) ≤ ((0 : Nat) : Int) - 1) = false := by decide
      have hD := hhalf.done
      rw [HU.out] at hD
      subst hD
      have Hrel := Lib.hid hrel
      have HN := Lib.hid (numN_size (u / 2))
      have Hd : Hid (Blk wr (w.heap.size + 1 + 1) 31 (numN (u / 2))) := hrel.d
      clear hrel hhalf hfr
      go_wp2_with (first
        | (refine wpList_loadBlk rfl 31 _ rfl (w.heap.size + 1 + 1) 0 16 rfl 31 (numN (u / 2)) _ Hd.out Tryd.underlying31 rfl sizeNum (by rw [HN.out]; omega) ?_; rw [extract_all _ _ HN.out])
        | (refine wpList_storeBlk2 rfl 31 _ _ rfl (w.heap.size + 1) 0 16 rfl (numN (u / 2)) rfl 31 _ Hrel.out.res sizeNum HN.out (by rw [zeroN_size]; omega) (numsA_one _ _) ?_; intro wz hbz huz hzz; rw [splice_all _ _ 16 zeroN_size HN.out] at hbz; have Hbz := Lib.hid hbz; have Huz := Lib.hid huz; clear hbz huz hzz))
      exact bodyPost_ret (v := .agg (numN (u / 2))) (results_cell_row (fn := Tryd.f44) (p := 2) (ty := 31) rfl _ _ (w.heap.size + 1) 31 _ (0, 0) _ rfl Hbz.out Tryd.underlying31 rfl (by rw [HN.out]; exact sizeNum)) rfl ⟨rfl, Hrel.out.upd.step Huz.out (fun i hi h => by omega)⟩
theorem enterrhalf (vs : Array Value) (w : World) : (callFunc 44 vs).run Tryd.prog w = .ok (.enter 44 vs) w := run_enter Tryd.func44 (by kernel_rfl) (by kernel_rfl) vs w
set_option maxRecDepth 100000 in
set_option maxHeartbeats 4000000 in
theorem rSquare_any (u t : Int) (w : World) (hu : NumOk u t) : Calls Tryd.prog 23 #[.agg (numN u)] w fun e w' => e = .returned (.bool (eulerB t)) ∧ Upd (fun _ => False) w w' := by
  have hz := zeroN_run
  have HU := Lib.hid hu
  clear hu
  have Hb0 := Lib.hid (Blk.at1 w (numN u) 31)
  obtain ⟨eb, hbe⟩ : ∃ eb, eb = eulerB t := ⟨_, rfl⟩
  rw [← hbe]
  have HBe : Hid (eb = (decide (t ^ (pp / 2).toNat % pp = 0) || decide (t ^ (pp / 2).toNat % pp = 1))) := hbe
  clear hbe
  go_enter Tryd.func23, Tryd.ntmps23
  go_wp2
  refine wp_region_slots #[true, true, true, true, true, true, false] ([.val (.agg (numN u)), .val (.agg (numN pp)), .val (.agg (numN (pp / 2))), .like (LikeN (t ^ (pp / 2).toNat)), .val (.agg (numN ((t ^ (pp / 2).toNat) % pp))), .new 31 zeroN] : List SP) (by kernel_rfl) (by kernel_rfl) (by kernel_rfl) ?_ ?_
  · intro i o listed an wn ho hls hst hun hdep hI K' hK'
    have hi : i < 6 := by
      rcases Nat.lt_or_ge i 6 with h | h
      · exact h
      · exfalso
        have hq : i = 6 ∨ 7 ≤ i := by omega
        rcases hq with rfl | h2
        · cases hst
        · have := idx_lt ho; simp at this; omega
    have hcase : i = 0 ∨ i = 1 ∨ i = 2 ∨ i = 3 ∨ i = 4 ∨ i = 5 := by omega
    rcases hcase with rfl | rfl | rfl | rfl | rfl | rfl
    · obtain rfl := Option.some.inj ho
      exact hI.stepLoad (by kernel_rfl) hls rfl rfl rfl 31 1 rfl (by kernel_rfl) (w.heap.size) 16 rfl 31 (numN u) Hb0.out _ Tryd.underlying31 rfl sizeNum (numN_size _) rfl rfl hK'
    · obtain rfl := Option.some.inj ho
      exact hI.stepCall (by kernel_rfl) hls rfl rfl rfl 37 #[] _ rfl #[] (by simp [Act.eval]) enterrPrime (.val (.agg (numN pp))) rfl rfl ((rPrime_any _).mono fun _ _ h => ⟨_, h.1, rfl, h.2⟩) hK'
    · obtain rfl := Option.some.inj ho
      obtain ⟨vp, hvp, hsp⟩ := hI.have 1 _ 5 (.val (.agg (numN pp))) rfl rfl rfl (hdep ⟨1, .data⟩ (by simp) rfl)
      obtain rfl := hsp
      exact hI.stepCall (by kernel_rfl) hls rfl rfl rfl 44 #[.tmp 5] _ rfl #[.agg (numN pp)] (by simp [eval_of hvp]) enterrhalf (.val (.agg (numN (pp / 2)))) rfl rfl ((rhalf_any pp _ (by decide) (by decide)).mono fun _ _ h => ⟨_, h.1, rfl, h.2⟩) hK'
    · obtain rfl := Option.some.inj ho
      obtain ⟨vp, hvp, hsp⟩ := hI.have 0 _ 4 (.val (.agg (numN u))) rfl rfl rfl (hdep ⟨0, .data⟩ (by simp) rfl)
      obtain rfl := hsp
      obtain ⟨vq, hvq, hsq⟩ := hI.have 2 _ 6 (.val (.agg (numN (pp / 2)))) rfl rfl rfl (hdep ⟨2, .data⟩ (by simp) rfl)
      obtain rfl := hsq
      exact hI.stepCall (by kernel_rfl) hls rfl rfl rfl 43 #[.tmp 4, .tmp 6] _ rfl #[.agg (numN u), .agg (numN (pp / 2))] (by simp [eval_of hvp, eval_of hvq]) enterrPower (.like (LikeN (t ^ (pp / 2).toNat))) rfl rfl ((rPower_any u t (pp / 2) _ HU.out (by decide) (by decide)).mono fun _ _ h => h.sp) hK'
    · obtain rfl := Option.some.inj ho
      obtain ⟨vp, hvp, rp, rfl, hNp⟩ := hI.have 3 _ 7 (.like (LikeN (t ^ (pp / 2).toNat))) rfl rfl rfl (hdep ⟨3, .data⟩ (by simp) rfl)
      exact hI.stepCall (by kernel_rfl) hls rfl rfl rfl 21 #[.tmp 7] _ rfl #[.agg (numN rp)] (by simp [eval_of hvp]) enterrCanon (.val (.agg (numN ((t ^ (pp / 2).toNat) % pp)))) rfl rfl ((rCanon_ok rp (t ^ (pp / 2).toNat) _ hNp).mono fun _ _ h => ⟨_, h.1, rfl, h.2⟩) hK'
    · obtain rfl := Option.some.inj ho
      exact hI.stepAlloc (by kernel_rfl) hls (Nat.le_refl _) (newsB_spec (by kernel_rfl)) rfl rfl rfl 31 rfl zeroN zeroN_run rfl hK'
  · intro fuel an wn hf hI
    obtain ⟨v0, hv0, hs0⟩ := hI.have 0 _ 4 (.val (.agg (numN u))) rfl rfl rfl rfl
    obtain rfl := hs0
    obtain ⟨v1, hv1, hs1⟩ := hI.have 1 _ 5 (.val (.agg (numN pp))) rfl rfl rfl rfl
    obtain rfl := hs1
    obtain ⟨v2, hv2, hs2⟩ := hI.have 2 _ 6 (.val (.agg (numN (pp / 2)))) rfl rfl rfl rfl
    obtain rfl := hs2
    obtain ⟨v3, hv3, r3_, rfl, hN3⟩ := hI.have 3 _ 7 (.like (LikeN (t ^ (pp / 2).toNat))) rfl rfl rfl rfl
    obtain ⟨v4, hv4, hs4⟩ := hI.have 4 _ 8 (.val (.agg (numN ((t ^ (pp / 2).toNat) % pp)))) rfl rfl rfl rfl
    obtain rfl := hs4
    obtain ⟨v5, hv5, b5, rfl, hn5, hb5⟩ := hI.have 5 _ 3 (.new 31 zeroN) rfl rfl rfl rfl
    have hupd := hI.upd
    have ha := hI.act [(4, .agg (numN u)), (5, .agg (numN pp)), (6, .agg (numN (pp / 2))), (7, .agg (numN r3_)), (8, .agg (numN ((t ^ (pp / 2).toNat) % pp))), (3, .pointer (some ⟨b5, 0, none⟩))] (by simp [hv0, hv1, hv2, hv3, hv4, hv5]) (by kernel_rfl)
    clear hI hv0 hv1 hv2 hv3 hv4 hv5
    subst ha
    simp only [List.foldl_cons, List.foldl_nil, List.setIfInBounds_toArray, List.set_cons_zero, List.set_cons_succ]
    have hf0 : left #[true, true, true, true, true, true, false] 7 = 1 := by kernel_rfl
    have hf1 : left #[true, true, true, true, true, true, false] 7 ≤ fuel := hf
    obtain ⟨fu, rfl⟩ : ∃ fu, fuel = fu + 1 := ⟨fuel - 1, by omega⟩
    clear hf hf0 hf1
    refine wpAny_ready (rs := [6]) (by kernel_rfl) (by simp) (AllReady.cons rfl (fun K hK => ?_) AllReady.nil)
    refine step_storeBlk2 rfl 31 (.tmp 3) (.tmp 8) rfl b5 0 16 rfl (numN ((t ^ (pp / 2).toNat) % pp)) rfl 31 zeroN hb5 sizeNum (numN_size _) (by rw [zeroN_size]; omega) (numsA_one _ _) ?_
    intro ws0 hs0 hus0 _
    rw [splice_all _ _ 16 zeroN_size (numN_size _)] at hs0
    refine hK _ _ ?_
    clear hK K
    dsimp only [Act.put]
    have hw0 := hupd.step hus0 (fun i hi h => by have := hn5; simp only [World.size_drew] at *; omega)
    refine wpAny_done (by kernel_rfl) ?_ _
    have Hs1 := Lib.hid hs0
    have Hu1 := Lib.hid (((Upd.refl (fun _ => False) w).alloc _).drew.trans hw0)
    have HB := Lib.hid (okMod_bd (t ^ (pp / 2).toNat))
    generalize b5 = bS at *
    clear hupd hb5 hn5 hs0 hus0 hw0 hN3
    generalize t ^ (pp / 2).toNat % pp = c at *
    generalize ws0 = w1 at *
    by_cases hc : c = 0
    · rw [decide_eq_true hc, Bool.true_or] at HBe
      have HCz := Lib.hid hc
      clear hc
      go_wp2
      refine wp_region_slots #[true, true, true, true, true, true, true, true, true] ([.val (.agg (numN c)), .val (.agg (numN 0)), .val (.bool true), .val (.bool true), .val undef, .val undef, .val undef, .val (.bool true), .val (.bool true)] : List SP) (by kernel_rfl) (by kernel_rfl) (by kernel_rfl) ?_ ?_
      · intro i o listed an wn ho hls hst hun hdep hI K' hK'
        have hi : i < 9 := by
          have := idx_lt ho; simp at this; omega
        have hcase : i = 0 ∨ i = 1 ∨ i = 2 ∨ i = 3 ∨ i = 4 ∨ i = 5 ∨ i = 6 ∨ i = 7 ∨ i = 8 := by omega
        rcases hcase with rfl | rfl | rfl | rfl | rfl | rfl | rfl | rfl | rfl
        · obtain rfl := Option.some.inj ho
          exact hI.stepLoad (by kernel_rfl) hls rfl rfl rfl 31 3 rfl (by kernel_rfl) (bS) 16 rfl 31 (numN c) Hs1.out _ Tryd.underlying31 rfl sizeNum (numN_size _) rfl rfl hK'
        · obtain rfl := Option.some.inj ho
          exact hI.stepPure (by kernel_rfl) hls rfl rfl rfl (.agg (numN 0)) (run_buildN rfl wn) rfl rfl hK'
        · obtain rfl := Option.some.inj ho
          obtain ⟨vp, hvp, hsp⟩ := hI.have 0 _ 9 (.val (.agg (numN c))) rfl rfl rfl (hdep ⟨0, .data⟩ (by simp) rfl)
          obtain rfl := hsp
          obtain ⟨vq, hvq, hsq⟩ := hI.have 1 _ 10 (.val (.agg (numN 0))) rfl rfl rfl (hdep ⟨1, .data⟩ (by simp) rfl)
          obtain rfl := hsq
          exact hI.stepPure (by kernel_rfl) hls rfl rfl rfl (.bool true) ((run_eqlNum rfl (eval_of hvp) (eval_of hvq) HB.out (by omega) wn).trans (by rw [decide_eq_true HCz.out])) rfl rfl hK'
        · obtain rfl := Option.some.inj ho
          obtain ⟨vp, hvp, hsp⟩ := hI.have 2 _ 11 (.val (.bool true)) rfl rfl rfl (hdep ⟨2, .data⟩ (by simp) rfl)
          obtain rfl := hsp
          exact hI.stepPure (by kernel_rfl) hls rfl rfl rfl (.bool true) (by simp [execOp, eval_of hvp]) rfl rfl hK'
        · obtain rfl := Option.some.inj ho
          obtain ⟨vg, hvg, hsg⟩ := hI.have 3 _ 12 (.val (.bool true)) rfl rfl rfl (hdep ⟨3, .guard⟩ (by simp) rfl)
          obtain rfl := hsg
          exact hI.stepSkip (by kernel_rfl) hls rfl (wanted_not rfl rfl rfl hvg rfl) rfl rfl rfl hK'
        · obtain rfl := Option.some.inj ho
          obtain ⟨vg, hvg, hsg⟩ := hI.have 3 _ 12 (.val (.bool true)) rfl rfl rfl (hdep ⟨3, .guard⟩ (by simp) rfl)
          obtain rfl := hsg
          exact hI.stepSkip (by kernel_rfl) hls rfl (wanted_not rfl rfl rfl hvg rfl) rfl rfl rfl hK'
        · obtain rfl := Option.some.inj ho
          obtain ⟨vg, hvg, hsg⟩ := hI.have 3 _ 12 (.val (.bool true)) rfl rfl rfl (hdep ⟨3, .guard⟩ (by simp) rfl)
          obtain rfl := hsg
          exact hI.stepSkip (by kernel_rfl) hls rfl (wanted_not rfl rfl rfl hvg rfl) rfl rfl rfl hK'
        · obtain rfl := Option.some.inj ho
          obtain ⟨vp, hvp, hsp⟩ := hI.have 3 _ 12 (.val (.bool true)) rfl rfl rfl (hdep ⟨3, .data⟩ (by simp) rfl)
          obtain rfl := hsp
          obtain ⟨vq, hvq, hsq⟩ := hI.have 6 _ 15 (.val undef) rfl rfl rfl (hdep ⟨6, .data⟩ (by simp) rfl)
          obtain rfl := hsq
          have hct : an.eval (.const (.bool true)) = .bool true := rfl
          exact hI.stepPure (by kernel_rfl) hls rfl rfl rfl (.bool true) (by simp [execOp, eval_of hvp, eval_of hvq, asBool, hct]) rfl rfl hK'
        · obtain rfl := Option.some.inj ho
          obtain ⟨vp, hvp, hsp⟩ := hI.have 7 _ 16 (.val (.bool true)) rfl rfl rfl (hdep ⟨7, .data⟩ (by simp) rfl)
          obtain rfl := hsp
          exact hI.stepPure (by kernel_rfl) hls rfl rfl rfl (.bool true) (by simp [execOp, eval_of hvp]) rfl rfl hK'
      · intro fuel an wn hf hI
        obtain ⟨vy0, hvy0, hsy0⟩ := hI.have 0 _ 9 (.val (.agg (numN c))) rfl rfl rfl rfl
        obtain rfl := hsy0
        obtain ⟨vy1, hvy1, hsy1⟩ := hI.have 1 _ 10 (.val (.agg (numN 0))) rfl rfl rfl rfl
        obtain rfl := hsy1
        obtain ⟨vy2, hvy2, hsy2⟩ := hI.have 2 _ 11 (.val (.bool true)) rfl rfl rfl rfl
        obtain rfl := hsy2
        obtain ⟨vy3, hvy3, hsy3⟩ := hI.have 3 _ 12 (.val (.bool true)) rfl rfl rfl rfl
        obtain rfl := hsy3
        obtain ⟨vy4, hvy4, hsy4⟩ := hI.have 4 _ 13 (.val undef) rfl rfl rfl rfl
        obtain rfl := hsy4
        obtain ⟨vy5, hvy5, hsy5⟩ := hI.have 5 _ 14 (.val undef) rfl rfl rfl rfl
        obtain rfl := hsy5
        obtain ⟨vy6, hvy6, hsy6⟩ := hI.have 6 _ 15 (.val undef) rfl rfl rfl rfl
        obtain rfl := hsy6
        obtain ⟨vy7, hvy7, hsy7⟩ := hI.have 7 _ 16 (.val (.bool true)) rfl rfl rfl rfl
        obtain rfl := hsy7
        obtain ⟨vy8, hvy8, hsy8⟩ := hI.have 8 _ 2 (.val (.bool true)) rfl rfl rfl rfl
        obtain rfl := hsy8
        have hupd := hI.upd
        have ha := hI.act [(9, .agg (numN c)), (10, .agg (numN 0)), (11, .bool true), (12, .bool true), (13, undef), (14, undef), (15, undef), (16, .bool true), (2, .bool true)] (by simp [hvy0, hvy1, hvy2, hvy3, hvy4, hvy5, hvy6, hvy7, hvy8]) (by kernel_rfl)
        clear hI hvy0 hvy1 hvy2 hvy3 hvy4 hvy5 hvy6 hvy7 hvy8
        subst ha
        simp only [List.foldl_cons, List.foldl_nil, List.setIfInBounds_toArray, List.set_cons_zero, List.set_cons_succ]
        refine wpAny_done (by kernel_rfl) ?_ _
        go_wp2
        go_ret
        exact ⟨by rw [HBe.out]; rfl, Hu1.out.drew.trans hupd⟩
    · rw [decide_eq_false hc, Bool.false_or] at HBe
      have HCz := Lib.hid hc
      clear hc
      go_wp2
      refine wp_region_slots #[true, true, true, true, true, true, true, true, true] ([.val (.agg (numN c)), .val (.agg (numN 0)), .val (.bool false), .val (.bool false), .val (.agg (numN c)), .val (.agg (numN (1))), .val (.bool (decide (c = 1))), .val (.bool (decide (c = 1))), .val (.bool (decide (c = 1)))] : List SP) (by kernel_rfl) (by kernel_rfl) (by kernel_rfl) ?_ ?_
      · intro i o listed an wn ho hls hst hun hdep hI K' hK'
        have hi : i < 9 := by
          have := idx_lt ho; simp at this; omega
        have hcase : i = 0 ∨ i = 1 ∨ i = 2 ∨ i = 3 ∨ i = 4 ∨ i = 5 ∨ i = 6 ∨ i = 7 ∨ i = 8 := by omega
        rcases hcase with rfl | rfl | rfl | rfl | rfl | rfl | rfl | rfl | rfl
        · obtain rfl := Option.some.inj ho
          exact hI.stepLoad (by kernel_rfl) hls rfl rfl rfl 31 3 rfl (by kernel_rfl) (bS) 16 rfl 31 (numN c) Hs1.out _ Tryd.underlying31 rfl sizeNum (numN_size _) rfl rfl hK'
        · obtain rfl := Option.some.inj ho
          exact hI.stepPure (by kernel_rfl) hls rfl rfl rfl (.agg (numN 0)) (run_buildN rfl wn) rfl rfl hK'
        · obtain rfl := Option.some.inj ho
          obtain ⟨vp, hvp, hsp⟩ := hI.have 0 _ 9 (.val (.agg (numN c))) rfl rfl rfl (hdep ⟨0, .data⟩ (by simp) rfl)
          obtain rfl := hsp
          obtain ⟨vq, hvq, hsq⟩ := hI.have 1 _ 10 (.val (.agg (numN 0))) rfl rfl rfl (hdep ⟨1, .data⟩ (by simp) rfl)
          obtain rfl := hsq
          exact hI.stepPure (by kernel_rfl) hls rfl rfl rfl (.bool false) ((run_eqlNum rfl (eval_of hvp) (eval_of hvq) HB.out (by omega) wn).trans (by rw [decide_eq_false HCz.out])) rfl rfl hK'
        · obtain rfl := Option.some.inj ho
          obtain ⟨vp, hvp, hsp⟩ := hI.have 2 _ 11 (.val (.bool false)) rfl rfl rfl (hdep ⟨2, .data⟩ (by simp) rfl)
          obtain rfl := hsp
          exact hI.stepPure (by kernel_rfl) hls rfl rfl rfl (.bool false) (by simp [execOp, eval_of hvp]) rfl rfl hK'
        · obtain rfl := Option.some.inj ho
          obtain ⟨vg, hvg, hsg⟩ := hI.have 3 _ 12 (.val (.bool false)) rfl rfl rfl (hdep ⟨3, .guard⟩ (by simp) rfl)
          obtain rfl := hsg
          exact hI.stepLoad (by kernel_rfl) hls rfl (wanted_of rfl rfl rfl hvg) rfl 31 3 rfl (by kernel_rfl) (bS) 16 rfl 31 (numN c) Hs1.out _ Tryd.underlying31 rfl sizeNum (numN_size _) rfl rfl hK'
        · obtain rfl := Option.some.inj ho
          obtain ⟨vg, hvg, hsg⟩ := hI.have 3 _ 12 (.val (.bool false)) rfl rfl rfl (hdep ⟨3, .guard⟩ (by simp) rfl)
          obtain rfl := hsg
          exact hI.stepCall (by kernel_rfl) hls rfl (wanted_of rfl rfl rfl hvg) rfl 45 #[.const (.int .u64 1)] _ rfl #[.int .u64 1] (by simp [Act.eval]) enterrSmall (.val (.agg (numN (1)))) rfl rfl ((rSmall_any (1) _ (by omega) (by omega)).mono fun _ _ h => ⟨_, h.1, rfl, h.2⟩) hK'
        · obtain rfl := Option.some.inj ho
          obtain ⟨vg, hvg, hsg⟩ := hI.have 3 _ 12 (.val (.bool false)) rfl rfl rfl (hdep ⟨3, .guard⟩ (by simp) rfl)
          obtain rfl := hsg
          obtain ⟨vp, hvp, hsp⟩ := hI.have 4 _ 13 (.val (.agg (numN c))) rfl rfl rfl (hdep ⟨4, .data⟩ (by simp) rfl)
          obtain rfl := hsp
          obtain ⟨vq, hvq, hsq⟩ := hI.have 5 _ 14 (.val (.agg (numN (1)))) rfl rfl rfl (hdep ⟨5, .data⟩ (by simp) rfl)
          obtain rfl := hsq
          exact hI.stepPure (by kernel_rfl) hls rfl (wanted_of rfl rfl rfl hvg) rfl (.bool (decide (c = 1))) (run_eqlNum rfl (eval_of hvp) (eval_of hvq) HB.out (by omega) wn) rfl rfl hK'
        · obtain rfl := Option.some.inj ho
          obtain ⟨vp, hvp, hsp⟩ := hI.have 3 _ 12 (.val (.bool false)) rfl rfl rfl (hdep ⟨3, .data⟩ (by simp) rfl)
          obtain rfl := hsp
          obtain ⟨vq, hvq, hsq⟩ := hI.have 6 _ 15 (.val (.bool (decide (c = 1)))) rfl rfl rfl (hdep ⟨6, .data⟩ (by simp) rfl)
          obtain rfl := hsq
          have hct : an.eval (.const (.bool true)) = .bool true := rfl
          exact hI.stepPure (by kernel_rfl) hls rfl rfl rfl (.bool (decide (c = 1))) (by simp [execOp, eval_of hvp, eval_of hvq, asBool, hct]) rfl rfl hK'
        · obtain rfl := Option.some.inj ho
          obtain ⟨vp, hvp, hsp⟩ := hI.have 7 _ 16 (.val (.bool (decide (c = 1)))) rfl rfl rfl (hdep ⟨7, .data⟩ (by simp) rfl)
          obtain rfl := hsp
          exact hI.stepPure (by kernel_rfl) hls rfl rfl rfl (.bool (decide (c = 1))) (by simp [execOp, eval_of hvp]) rfl rfl hK'
      · intro fuel an wn hf hI
        obtain ⟨vz0, hvz0, hsz0⟩ := hI.have 0 _ 9 (.val (.agg (numN c))) rfl rfl rfl rfl
        obtain rfl := hsz0
        obtain ⟨vz1, hvz1, hsz1⟩ := hI.have 1 _ 10 (.val (.agg (numN 0))) rfl rfl rfl rfl
        obtain rfl := hsz1
        obtain ⟨vz2, hvz2, hsz2⟩ := hI.have 2 _ 11 (.val (.bool false)) rfl rfl rfl rfl
        obtain rfl := hsz2
        obtain ⟨vz3, hvz3, hsz3⟩ := hI.have 3 _ 12 (.val (.bool false)) rfl rfl rfl rfl
        obtain rfl := hsz3
        obtain ⟨vz4, hvz4, hsz4⟩ := hI.have 4 _ 13 (.val (.agg (numN c))) rfl rfl rfl rfl
        obtain rfl := hsz4
        obtain ⟨vz5, hvz5, hsz5⟩ := hI.have 5 _ 14 (.val (.agg (numN (1)))) rfl rfl rfl rfl
        obtain rfl := hsz5
        obtain ⟨vz6, hvz6, hsz6⟩ := hI.have 6 _ 15 (.val (.bool (decide (c = 1)))) rfl rfl rfl rfl
        obtain rfl := hsz6
        obtain ⟨vz7, hvz7, hsz7⟩ := hI.have 7 _ 16 (.val (.bool (decide (c = 1)))) rfl rfl rfl rfl
        obtain rfl := hsz7
        obtain ⟨vz8, hvz8, hsz8⟩ := hI.have 8 _ 2 (.val (.bool (decide (c = 1)))) rfl rfl rfl rfl
        obtain rfl := hsz8
        have hupd := hI.upd
        have ha := hI.act [(9, .agg (numN c)), (10, .agg (numN 0)), (11, .bool false), (12, .bool false), (13, .agg (numN c)), (14, .agg (numN (1))), (15, .bool (decide (c = 1))), (16, .bool (decide (c = 1))), (2, .bool (decide (c = 1)))] (by simp [hvz0, hvz1, hvz2, hvz3, hvz4, hvz5, hvz6, hvz7, hvz8]) (by kernel_rfl)
        clear hI hvz0 hvz1 hvz2 hvz3 hvz4 hvz5 hvz6 hvz7 hvz8
        subst ha
        simp only [List.foldl_cons, List.foldl_nil, List.setIfInBounds_toArray, List.set_cons_zero, List.set_cons_succ]
        refine wpAny_done (by kernel_rfl) ?_ _
        go_wp2
        go_ret
        exact ⟨by rw [HBe.out]; rfl, Hu1.out.drew.trans hupd⟩
set_option maxRecDepth 100000 in
set_option maxHeartbeats 4000000 in
theorem rIsRoot_any (x u v X U V : Int) (w : World) (hx : NumOk x X) (hu : NumOk u U) (hv : NumOk v V) : Calls Tryd.prog 27 #[.agg (numN x), .agg (numN u), .agg (numN v)] w fun e w' => e = .returned (.bool (decide (X * X * V % pp = U % pp))) ∧ Upd (fun _ => False) w w' := by
  have HX := Lib.hid hx
  have HU := Lib.hid hu
  have HV := Lib.hid hv
  clear hx hu hv
  have Hb0 := Lib.hid (((Blk.at1 w (numN x) 31).alloc (.cells (numN u) 31)).alloc (.cells (numN v) 31))
  have Hb1 := Lib.hid ((Blk.at2 w (.cells (numN x) 31) (numN u) 31).alloc (.cells (numN v) 31))
  have Hb2 := Lib.hid (Blk.at3 w (.cells (numN x) 31) (.cells (numN u) 31) (numN v) 31)
  go_enter Tryd.func27, Tryd.ntmps27
  go_wp2
  refine wp_region_slots #[true, true, true, true, true, true, true, true, true, true] ([.val (.agg (numN x)), .val (.agg (numN x)), .like (LikeN (X * X)), .val (.agg (numN v)), .like (LikeN ((X * X) * V)), .val (.agg (numN (((X * X) * V) % pp))), .val (.agg (numN u)), .val (.agg (numN (U % pp))), .val (.bool (decide (X * X * V % pp = U % pp))), .val (.bool (decide (X * X * V % pp = U % pp)))] : List SP) (by kernel_rfl) (by kernel_rfl) (by kernel_rfl) ?_ ?_
  · intro i o listed an wn ho hls hst hun hdep hI K' hK'
    have hi : i < 10 := by
      have := idx_lt ho; simp at this; omega
    have hcase : i = 0 ∨ i = 1 ∨ i = 2 ∨ i = 3 ∨ i = 4 ∨ i = 5 ∨ i = 6 ∨ i = 7 ∨ i = 8 ∨ i = 9 := by omega
    rcases hcase with rfl | rfl | rfl | rfl | rfl | rfl | rfl | rfl | rfl | rfl
    · obtain rfl := Option.some.inj ho
      exact hI.stepLoad (by kernel_rfl) hls rfl rfl rfl 31 3 rfl (by kernel_rfl) (w.heap.size) 16 rfl 31 (numN x) Hb0.out _ Tryd.underlying31 rfl sizeNum (numN_size _) rfl rfl hK'
    · obtain rfl := Option.some.inj ho
      exact hI.stepLoad (by kernel_rfl) hls rfl rfl rfl 31 3 rfl (by kernel_rfl) (w.heap.size) 16 rfl 31 (numN x) Hb0.out _ Tryd.underlying31 rfl sizeNum (numN_size _) rfl rfl hK'
    · obtain rfl := Option.some.inj ho
      obtain ⟨vp, hvp, hsp⟩ := hI.have 0 _ 7 (.val (.agg (numN x))) rfl rfl rfl (hdep ⟨0, .data⟩ (by simp) rfl)
      obtain rfl := hsp
      obtain ⟨vq, hvq, hsq⟩ := hI.have 1 _ 8 (.val (.agg (numN x))) rfl rfl rfl (hdep ⟨1, .data⟩ (by simp) rfl)
      obtain rfl := hsq
      exact hI.stepCall (by kernel_rfl) hls rfl rfl rfl 24 #[.tmp 7, .tmp 8] _ rfl #[.agg (numN x), .agg (numN x)] (by simp [eval_of hvp, eval_of hvq]) enterrMul (.like (LikeN (X * X))) rfl rfl ((rMul_any x x X X _ HX.out HX.out).mono fun _ _ h => h.sp) hK'
    · obtain rfl := Option.some.inj ho
      exact hI.stepLoad (by kernel_rfl) hls rfl rfl rfl 31 5 rfl (by kernel_rfl) (w.heap.size + 1 + 1) 16 rfl 31 (numN v) Hb2.out _ Tryd.underlying31 rfl sizeNum (numN_size _) rfl rfl hK'
    · obtain rfl := Option.some.inj ho
      obtain ⟨vp, hvp, rp, rfl, hNp⟩ := hI.have 2 _ 9 (.like (LikeN (X * X))) rfl rfl rfl (hdep ⟨2, .data⟩ (by simp) rfl)
      obtain ⟨vq, hvq, hsq⟩ := hI.have 3 _ 10 (.val (.agg (numN v))) rfl rfl rfl (hdep ⟨3, .data⟩ (by simp) rfl)
      obtain rfl := hsq
      exact hI.stepCall (by kernel_rfl) hls rfl rfl rfl 24 #[.tmp 9, .tmp 10] _ rfl #[.agg (numN rp), .agg (numN v)] (by simp [eval_of hvp, eval_of hvq]) enterrMul (.like (LikeN ((X * X) * V))) rfl rfl ((rMul_any rp v (X * X) V _ hNp HV.out).mono fun _ _ h => h.sp) hK'
    · obtain rfl := Option.some.inj ho
      obtain ⟨vp, hvp, rp, rfl, hNp⟩ := hI.have 4 _ 11 (.like (LikeN ((X * X) * V))) rfl rfl rfl (hdep ⟨4, .data⟩ (by simp) rfl)
      exact hI.stepCall (by kernel_rfl) hls rfl rfl rfl 21 #[.tmp 11] _ rfl #[.agg (numN rp)] (by simp [eval_of hvp]) enterrCanon (.val (.agg (numN (((X * X) * V) % pp)))) rfl rfl ((rCanon_ok rp ((X * X) * V) _ hNp).mono fun _ _ h => ⟨_, h.1, rfl, h.2⟩) hK'
    · obtain rfl := Option.some.inj ho
      exact hI.stepLoad (by kernel_rfl) hls rfl rfl rfl 31 4 rfl (by kernel_rfl) (w.heap.size + 1) 16 rfl 31 (numN u) Hb1.out _ Tryd.underlying31 rfl sizeNum (numN_size _) rfl rfl hK'
    · obtain rfl := Option.some.inj ho
      obtain ⟨vp, hvp, hsp⟩ := hI.have 6 _ 13 (.val (.agg (numN u))) rfl rfl rfl (hdep ⟨6, .data⟩ (by simp) rfl)
      obtain rfl := hsp
      exact hI.stepCall (by kernel_rfl) hls rfl rfl rfl 21 #[.tmp 13] _ rfl #[.agg (numN u)] (by simp [eval_of hvp]) enterrCanon (.val (.agg (numN (U % pp)))) rfl rfl ((rCanon_ok u U _ HU.out).mono fun _ _ h => ⟨_, h.1, rfl, h.2⟩) hK'
    · obtain rfl := Option.some.inj ho
      obtain ⟨vp, hvp, hsp⟩ := hI.have 5 _ 12 (.val (.agg (numN (((X * X) * V) % pp)))) rfl rfl rfl (hdep ⟨5, .data⟩ (by simp) rfl)
      obtain rfl := hsp
      obtain ⟨vq, hvq, hsq⟩ := hI.have 7 _ 14 (.val (.agg (numN (U % pp)))) rfl rfl rfl (hdep ⟨7, .data⟩ (by simp) rfl)
      obtain rfl := hsq
      exact hI.stepPure (by kernel_rfl) hls rfl rfl rfl (.bool (decide (X * X * V % pp = U % pp))) (run_eqlNum rfl (eval_of hvp) (eval_of hvq) (okMod_bd _) (okMod_bd _) wn) rfl rfl hK'
    · obtain rfl := Option.some.inj ho
      obtain ⟨vp, hvp, hsp⟩ := hI.have 8 _ 15 (.val (.bool (decide (X * X * V % pp = U % pp)))) rfl rfl rfl (hdep ⟨8, .data⟩ (by simp) rfl)
      obtain rfl := hsp
      exact hI.stepPure (by kernel_rfl) hls rfl rfl rfl (.bool (decide (X * X * V % pp = U % pp))) (by simp [execOp, eval_of hvp]) rfl rfl hK'
  · intro fuel an wn hf hI
    obtain ⟨v0, hv0, hs0⟩ := hI.have 0 _ 7 (.val (.agg (numN x))) rfl rfl rfl rfl
    obtain rfl := hs0
    obtain ⟨v1, hv1, hs1⟩ := hI.have 1 _ 8 (.val (.agg (numN x))) rfl rfl rfl rfl
    obtain rfl := hs1
    obtain ⟨v2, hv2, r2_, rfl, hN2⟩ := hI.have 2 _ 9 (.like (LikeN (X * X))) rfl rfl rfl rfl
    obtain ⟨v3, hv3, hs3⟩ := hI.have 3 _ 10 (.val (.agg (numN v))) rfl rfl rfl rfl
    obtain rfl := hs3
    obtain ⟨v4, hv4, r4_, rfl, hN4⟩ := hI.have 4 _ 11 (.like (LikeN ((X * X) * V))) rfl rfl rfl rfl
    obtain ⟨v5, hv5, hs5⟩ := hI.have 5 _ 12 (.val (.agg (numN (((X * X) * V) % pp)))) rfl rfl rfl rfl
    obtain rfl := hs5
    obtain ⟨v6, hv6, hs6⟩ := hI.have 6 _ 13 (.val (.agg (numN u))) rfl rfl rfl rfl
    obtain rfl := hs6
    obtain ⟨v7, hv7, hs7⟩ := hI.have 7 _ 14 (.val (.agg (numN (U % pp)))) rfl rfl rfl rfl
    obtain rfl := hs7
    obtain ⟨v8, hv8, hs8⟩ := hI.have 8 _ 15 (.val (.bool (decide (X * X * V % pp = U % pp)))) rfl rfl rfl rfl
    obtain rfl := hs8
    obtain ⟨v9, hv9, hs9⟩ := hI.have 9 _ 6 (.val (.bool (decide (X * X * V % pp = U % pp)))) rfl rfl rfl rfl
    obtain rfl := hs9
    have hupd := hI.upd
    have ha := hI.act [(7, .agg (numN x)), (8, .agg (numN x)), (9, .agg (numN r2_)), (10, .agg (numN v)), (11, .agg (numN r4_)), (12, .agg (numN (((X * X) * V) % pp))), (13, .agg (numN u)), (14, .agg (numN (U % pp))), (15, .bool (decide (X * X * V % pp = U % pp))), (6, .bool (decide (X * X * V % pp = U % pp)))] (by simp [hv0, hv1, hv2, hv3, hv4, hv5, hv6, hv7, hv8, hv9]) (by kernel_rfl)
    clear hI hv0 hv1 hv2 hv3 hv4 hv5 hv6 hv7 hv8 hv9
    subst ha
    simp only [List.foldl_cons, List.foldl_nil, List.setIfInBounds_toArray, List.set_cons_zero, List.set_cons_succ]
    refine wpAny_done (by kernel_rfl) ?_ _
    go_wp2
    go_ret
    exact ⟨rfl, ((((Upd.refl (fun _ => False) w).alloc _).alloc _).alloc _).drew.trans hupd⟩
end Go.Proofs.YtpjkmocabnnhaaaDoor
