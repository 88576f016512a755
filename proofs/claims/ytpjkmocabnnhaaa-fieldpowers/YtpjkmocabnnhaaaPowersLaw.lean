/-
  The walk of FieldPowers.
-/
import Derived.Test.YtpjkmocabnnhaaaRefQ
import Derived.Test.YtpjkmocabnnhaaaSkip
namespace Go.Proofs.Ytpjkmocabnnhaaa
open Go.RowKit

theorem enterMul (vs : Array Value) (w : World) : (callFunc 17 vs).run Try.prog w = .ok (.enter 17 vs) w := run_enter Try.func17 (by kernel_rfl) (by kernel_rfl) vs w
theorem enterEqual (vs : Array Value) (w : World) : (callFunc 20 vs).run Try.prog w = .ok (.enter 20 vs) w := run_enter Try.func20 (by kernel_rfl) (by kernel_rfl) vs w
theorem enterInvert (vs : Array Value) (w : World) : (callFunc 21 vs).run Try.prog w = .ok (.enter 21 vs) w := run_enter Try.func21 (by kernel_rfl) (by kernel_rfl) vs w
theorem expo_low (l : List Int) (hl : l.length = 32) (hd : Digs 256 l) : expo (l.set 31 (l.getD 31 0 % 128)) = (keyNum (l.set 31 (l.getD 31 0 % 128))).toNat := by
  have h31 := hd.get (B := 256) (by omega) 31
  unfold expo keyNum
  congr 1
  symm
  have hlen : (l.set 31 (l.getD 31 0 % 128)).length = 32 := by rw [List.length_set]; exact hl
  have hD : Digs 256 (l.set 31 (l.getD 31 0 % 128)) := fun x hx => by
    rcases List.mem_or_eq_of_mem_set hx with h | h
    · exact hd x h
    · omega
  have h0 := dig_nonneg (B := 256) (by omega) hD
  refine Int.emod_eq_of_lt h0 ?_
  have hs := dig_set 256 l 31 (l.getD 31 0 % 128) (by omega)
  have hz := dig_set 256 l 31 0 (by omega)
  have hz2 : dig 256 (l.set 31 0) < 256 ^ 31 := by
    have e : l.set 31 0 = l.take 31 ++ [0] := by
      rw [List.set_eq_take_append_cons_drop, if_pos (by omega), List.drop_eq_nil_of_le (by omega)]
    rw [e, dig_append]
    have hD2 : Digs 256 (l.take 31) := fun x hx => hd x (List.mem_of_mem_take hx)
    have := dig_lt (B := 256) (by omega) hD2
    rw [show (l.take 31).length = 31 by simp; omega] at this
    simp only [dig]
    omega
  rw [show (256 : Int) ^ 31 = 452312848583266388373324160190187140051835877600158453279131187530910662656 by decide] at *
  omega
theorem low_digs {l : List Int} (hd : Digs 256 l) : Digs 256 (l.set 31 (l.getD 31 0 % 128)) := fun x hx => by
  have h31 := hd.get (B := 256) (by omega) 31
  rcases List.mem_or_eq_of_mem_set hx with h | h
  · exact hd x h
  · omega
theorem dec_cong {m n : Int} (h : Cong m n) : decide (m % pp = n % pp) = true := by rw [(cong_iff _ _).1 h]; simp
theorem expo_keyL (n : Int) (h : 0 ≤ n) : expo (keyL n) = n.toNat := by
  unfold expo keyL
  simp only [dig]
  rw [dig_zeros]
  omega
set_option maxRecDepth 100000 in
set_option maxHeartbeats 8000000 in
theorem fieldPowers_any (la lb : List Int) (w : World) (hla : la.length = 32) (hda : Digs 256 la) (hlb : lb.length = 32) (hdb : Digs 256 lb) :
    Calls Try.prog 5 #[.agg (numsA .u8 la), .agg (numsA .u8 lb)] w fun e w' => e = .returned (.bool true) ∧ Upd (fun _ => False) w w' := by
  have Hla := Lib.hid hla
  have Hda := Lib.hid hda
  have Hlb := Lib.hid hlb
  have Hdb := Lib.hid hdb
  have HA : Hid ((numsA .u8 la).size = 32) := by show _ = _; rw [numsA_size]; exact hla
  clear hla hda hlb hdb
  go_enter Try.func5, Try.ntmps5
  go_wp2_with fail
  refine (counts_any _).mono ?_
  rintro e w1 ⟨rfl, hu⟩
  have Hka := Lib.hid (hu.blk ((Blk.at1 w (numsA .u8 la) 23).alloc _) (fun h => h))
  have Hkb := Lib.hid (hu.blk (Blk.at2 w _ (numsA .u8 lb) 23) (fun h => h))
  have Hu1 := Lib.hid ((((Upd.refl (fun _ => False) w).alloc _).alloc _).trans hu)
  clear hu
  go_wp2
  refine wp_region_slots #[true, true, true, true, true, true, false, false] ([.val (.agg (numsA .u8 la)), .elem (keyNum la), .val (.agg (numsA .u8 la)), .val (.agg (numN (keyNum la))), .new 33 #[.int .u64 0, .int .u64 0, .int .u64 0, .int .u64 0, .int .u64 0], .new 29 zeroN] : List SP) (by kernel_rfl) (by kernel_rfl) (by kernel_rfl) ?_ ?_
  · intro i o listed an wn ho hls hst hun hdep hI K' hK'
    have hi : i < 6 := by
      rcases Nat.lt_or_ge i 6 with h | h
      · exact h
      · exfalso
        have hq : i = 6 ∨ i = 7 ∨ 8 ≤ i := by omega
        rcases hq with rfl | rfl | h2
        · cases hst
        · cases hst
        · have := idx_lt ho; simp at this; omega
    have hcase : i = 0 ∨ i = 1 ∨ i = 2 ∨ i = 3 ∨ i = 4 ∨ i = 5 := by omega
    rcases hcase with rfl | rfl | rfl | rfl | rfl | rfl
    · obtain rfl := Option.some.inj ho
      exact hI.stepLoad (by kernel_rfl) hls rfl rfl rfl 23 2 rfl (by kernel_rfl) (w.heap.size) 32 rfl 23 (numsA .u8 la) Hka.out _ Try.underlying23 rfl sizeKey HA.out rfl rfl hK'
    · obtain rfl := Option.some.inj ho
      obtain ⟨vp, hvp, hsp⟩ := hI.have 0 _ 12 (.val (.agg (numsA .u8 la))) rfl rfl rfl (hdep ⟨0, .data⟩ (by simp) rfl)
      obtain rfl := hsp
      exact hI.stepCall (by kernel_rfl) hls rfl rfl rfl 10 #[.tmp 12] _ rfl #[.agg (numsA .u8 la)] (by simp [eval_of hvp]) enterOf (.elem (keyNum la)) rfl rfl ((of_any la _ (Hla.out) (Hda.out)).mono fun _ _ h => h.sp) hK'
    · obtain rfl := Option.some.inj ho
      exact hI.stepLoad (by kernel_rfl) hls rfl rfl rfl 23 2 rfl (by kernel_rfl) (w.heap.size) 32 rfl 23 (numsA .u8 la) Hka.out _ Try.underlying23 rfl sizeKey HA.out rfl rfl hK'
    · obtain rfl := Option.some.inj ho
      obtain ⟨vp, hvp, hsp⟩ := hI.have 2 _ 14 (.val (.agg (numsA .u8 la))) rfl rfl rfl (hdep ⟨2, .data⟩ (by simp) rfl)
      obtain rfl := hsp
      exact hI.stepCall (by kernel_rfl) hls rfl rfl rfl 9 #[.tmp 14] _ rfl #[.agg (numsA .u8 la)] (by simp [eval_of hvp]) enterrOf (.val (.agg (numN (keyNum la)))) rfl rfl ((rOf_any la _ (Hla.out) (Hda.out)).mono fun _ _ h => ⟨_, h.1, rfl, h.2⟩) hK'
    · obtain rfl := Option.some.inj ho
      exact hI.stepAlloc (by kernel_rfl) hls (Nat.le_refl _) (newsB_spec (by kernel_rfl)) rfl rfl rfl 33 rfl #[.int .u64 0, .int .u64 0, .int .u64 0, .int .u64 0, .int .u64 0] zeroE_run rfl hK'
    · obtain rfl := Option.some.inj ho
      exact hI.stepAlloc (by kernel_rfl) hls (Nat.le_refl _) (newsB_spec (by kernel_rfl)) rfl rfl rfl 29 rfl zeroN zeroN_run rfl hK'
  · intro fuel an wn hf hI
    obtain ⟨v0, hv0, hs0⟩ := hI.have 0 _ 12 (.val (.agg (numsA .u8 la))) rfl rfl rfl rfl
    obtain rfl := hs0
    obtain ⟨v1, hv1, e1_0, e1_1, e1_2, e1_3, e1_4, rfl, hF1⟩ := hI.have 1 _ 13 (.elem (keyNum la)) rfl rfl rfl rfl
    obtain ⟨v2, hv2, hs2⟩ := hI.have 2 _ 14 (.val (.agg (numsA .u8 la))) rfl rfl rfl rfl
    obtain rfl := hs2
    obtain ⟨v3, hv3, hs3⟩ := hI.have 3 _ 15 (.val (.agg (numN (keyNum la)))) rfl rfl rfl rfl
    obtain rfl := hs3
    obtain ⟨v4, hv4, b4, rfl, hn4, hb4⟩ := hI.have 4 _ 5 (.new 33 #[.int .u64 0, .int .u64 0, .int .u64 0, .int .u64 0, .int .u64 0]) rfl rfl rfl rfl
    obtain ⟨v5, hv5, b5, rfl, hn5, hb5⟩ := hI.have 5 _ 6 (.new 29 zeroN) rfl rfl rfl rfl
    have hne4_5 : b4 ≠ b5 := fun e => hI.apart 4 5 _ _ 5 6 (by omega) rfl rfl rfl rfl rfl rfl rfl rfl (by rw [hv4, hv5, e])
    have hupd := hI.upd
    have ha := hI.act [(12, .agg (numsA .u8 la)), (13, .agg #[.int .u64 e1_0, .int .u64 e1_1, .int .u64 e1_2, .int .u64 e1_3, .int .u64 e1_4]), (14, .agg (numsA .u8 la)), (15, .agg (numN (keyNum la))), (5, .pointer (some ⟨b4, 0, none⟩)), (6, .pointer (some ⟨b5, 0, none⟩))] (by simp [hv0, hv1, hv2, hv3, hv4, hv5]) (by kernel_rfl)
    clear hI hv0 hv1 hv2 hv3 hv4 hv5
    subst ha
    simp only [List.foldl_cons, List.foldl_nil, List.setIfInBounds_toArray, List.set_cons_zero, List.set_cons_succ]
    have hf0 : left #[true, true, true, true, true, true, false, false] 8 = 2 := by kernel_rfl
    have hf1 : left #[true, true, true, true, true, true, false, false] 8 ≤ fuel := hf
    obtain ⟨fu, rfl⟩ : ∃ fu, fuel = fu + 2 := ⟨fuel - 2, by omega⟩
    clear hf hf0 hf1
    refine wpAny_ready (rs := [6]) (by kernel_rfl) (by simp) (AllReady.cons rfl (fun K hK => ?_) AllReady.nil)
    refine step_storeBlk2 rfl 33 (.tmp 5) (.tmp 13) rfl b4 0 5 rfl #[.int .u64 e1_0, .int .u64 e1_1, .int .u64 e1_2, .int .u64 e1_3, .int .u64 e1_4] rfl 33 #[.int .u64 0, .int .u64 0, .int .u64 0, .int .u64 0, .int .u64 0] hb4 info28 rfl (by simp) (one5 _ _ _ _ _) ?_
    intro ws0 hs0 hus0 _
    rw [splice_all _ _ 5 rfl rfl] at hs0
    refine hK _ _ ?_
    clear hK K
    dsimp only [Act.put]
    have hb5_0 := hus0.blk hb5 (fun e => hne4_5 e.symm)
    have hw0 := hupd.step hus0 (fun i hi h => by have := hn4; simp only [World.size_drew] at *; omega)
    refine wpAny_ready (rs := [7]) (by kernel_rfl) (by simp) (AllReady.cons rfl (fun K hK => ?_) AllReady.nil)
    refine step_storeBlk2 rfl 29 (.tmp 6) (.tmp 15) rfl b5 0 16 rfl (numN (keyNum la)) rfl 29 zeroN hb5_0 sizeNum (numN_size _) (by rw [zeroN_size]; omega) (numsA_one _ _) ?_
    intro ws1 hs1 hus1 _
    rw [splice_all _ _ 16 zeroN_size (numN_size _)] at hs1
    refine hK _ _ ?_
    clear hK K
    dsimp only [Act.put]
    have hb4_1 := hus1.blk hs0 (fun e => hne4_5 e)
    have hw1 := hw0.step hus1 (fun i hi h => by have := hn5; simp only [World.size_drew] at *; omega)
    refine wpAny_done (by kernel_rfl) ?_ _
    have Hx3 := Lib.hid hb4_1
    have Hn3 := Lib.hid hs1
    have HFx := Lib.hid hF1
    have Hu3 := Lib.hid (Hu1.out.drew.trans hw1)
    have Hk3 := Lib.hid (hw1.blk (show Blk _ _ _ _ from Hkb.out) (fun h => h))
    generalize b4 = bX at *
    generalize b5 = bU at *
    have hneX : bX ≠ w.heap.size + 1 := by have h1 := hn4; have h2 := Hkb.out.lt; omega
    have hneU : bU ≠ w.heap.size + 1 := by have h1 := hn5; have h2 := Hkb.out.lt; omega
    generalize e1_0 = x0 at *
    generalize e1_1 = x1 at *
    generalize e1_2 = x2 at *
    generalize e1_3 = x3 at *
    generalize e1_4 = x4 at *
    clear hF1 hupd hb4 hb5 hn4 hn5 hne4_5 hs0 hs1 hus0 hus1 hw0 hw1 hb5_0 hb4_1 Hka Hkb Hu1
    have OA := Lib.hid (okKey la)
    generalize keyNum la = na at *
    clear Hla Hda HA
    generalize ws1 = w3 at *
    have c31 : w3.cell? ⟨w.heap.size + 1, 31, none⟩ = some (.int .u8 (lb.getD 31 0)) := by rw [Hk3.out.cell, numsA_get _ _ _ (by rw [Hlb.out]; omega)]
    have hfr := Hk3.out.frozen
    have hy := Hdb.out.get (B := 256) (by omega) 31
    obtain ⟨lc, hlc⟩ : ∃ lc, lc = lb.set 31 (lb.getD 31 0 % 128) := ⟨_, rfl⟩
    have Hlc : Hid (lc.length = 32) := by show _ = _; rw [hlc, List.length_set]; exact Hlb.out
    have Hdc : Hid (Digs 256 lc) := by show Digs _ _; rw [hlc]; exact low_digs Hdb.out
    have HE : Hid ((keyNum lc).toNat = expo lc) := by show _ = _; rw [hlc, expo_low lb Hlb.out Hdb.out]
    have HCs : Hid ((numsA .u8 lc).size = 32) := by show _ = _; rw [numsA_size]; exact Hlc.out
    have Hk4 : Hid (Blk (w3.setCell ⟨w.heap.size + 1, 31, none⟩ (.int .u8 (lb.getD 31 0 % 128))) (w.heap.size + 1) 23 (numsA .u8 lc)) := by
      rw [hlc, ← numsA_set]
      exact Hk3.out.set 31 _
    have Hx4 : Hid (Blk (w3.setCell ⟨w.heap.size + 1, 31, none⟩ (.int .u8 (lb.getD 31 0 % 128))) bX 33 #[.int .u64 x0, .int .u64 x1, .int .u64 x2, .int .u64 x3, .int .u64 x4]) := Hx3.out.setOther hneX _
    have Hn4 : Hid (Blk (w3.setCell ⟨w.heap.size + 1, 31, none⟩ (.int .u8 (lb.getD 31 0 % 128))) bU 29 (numN na)) := Hn3.out.setOther hneU _
    have Hu4 : Hid (Upd (fun _ => False) w (w3.setCell ⟨w.heap.size + 1, 31, none⟩ (.int .u8 (lb.getD 31 0 % 128)))) := Hu3.out.set _ (fun h => by simp at h; omega)
    clear Hk3 Hx3 Hn3 Hu3 hlc hneX hneU Hlb Hdb
    generalize lb.getD 31 0 = y at *
    obtain ⟨cx0, cx1, cx2, cx3, cx4⟩ := cells5p Hx4.out
    go_wp2_with fail
    refine (invert_any x0 x1 x2 x3 x4 na _ HFx.out).mono ?_
    rintro e w5 ⟨i0, i1, i2, i3, i4, hFi, rfl, hu⟩
    have HFi := Lib.hid hFi
    have Hx5 := Lib.hid ((hu.blk Hx4.out (fun h => h)).alloc (.cells #[.int .u64 i0, .int .u64 i1, .int .u64 i2, .int .u64 i3, .int .u64 i4] 33))
    have Hn5 := Lib.hid ((hu.blk Hn4.out (fun h => h)).alloc (.cells #[.int .u64 i0, .int .u64 i1, .int .u64 i2, .int .u64 i3, .int .u64 i4] 33))
    have Hk5 := Lib.hid ((hu.blk Hk4.out (fun h => h)).alloc (.cells #[.int .u64 i0, .int .u64 i1, .int .u64 i2, .int .u64 i3, .int .u64 i4] 33))
    have Hi5 := Lib.hid (Blk.at1 w5 #[.int .u64 i0, .int .u64 i1, .int .u64 i2, .int .u64 i3, .int .u64 i4] 33)
    have Hu5 := Lib.hid ((Hu4.out.trans hu).alloc (.cells #[.int .u64 i0, .int .u64 i1, .int .u64 i2, .int .u64 i3, .int .u64 i4] 33))
    clear hu hFi Hx4 Hn4 Hk4 Hu4 c31 hfr cx0 cx1 cx2 cx3 cx4
    go_wp2
    refine wp_region_slots #[true, true, true, true, true, true, true, true, true, true, true, true, true, true, true, true, true, true] ([.val (.agg #[.int .u64 i0, .int .u64 i1, .int .u64 i2, .int .u64 i3, .int .u64 i4]), .val (.agg (numsA .u8 (digits 256 32 ((na ^ expInv) % pp)))), .val (.agg (numN na)), .like (LikeN (na ^ expInv)), .val (.agg (numsA .u8 (digits 256 32 ((na ^ expInv) % pp)))), .val (.bool false), .val (.bool false), .val (.agg #[.int .u64 x0, .int .u64 x1, .int .u64 x2, .int .u64 x3, .int .u64 x4]), .val (.agg (numsA .u8 lc)), .elem (na ^ expo lc), .val (.agg (numsA .u8 (digits 256 32 ((na ^ expo lc) % pp)))), .val (.agg (numN na)), .val (.agg (numsA .u8 lc)), .val (.agg (numN (keyNum lc))), .like (LikeN (na ^ expo lc)), .val (.agg (numsA .u8 (digits 256 32 ((na ^ expo lc) % pp)))), .val (.bool false), .val (.bool false)] : List SP) (by kernel_rfl) (by kernel_rfl) (by kernel_rfl) ?_ ?_
    · intro i o listed an wn ho hls hst hun hdep hI K' hK'
      have hi : i < 18 := by
        have := idx_lt ho; simp at this; omega
      have hcase : i = 0 ∨ i = 1 ∨ i = 2 ∨ i = 3 ∨ i = 4 ∨ i = 5 ∨ i = 6 ∨ i = 7 ∨ i = 8 ∨ i = 9 ∨ i = 10 ∨ i = 11 ∨ i = 12 ∨ i = 13 ∨ i = 14 ∨ i = 15 ∨ i = 16 ∨ i = 17 := by omega
      rcases hcase with rfl | rfl | rfl | rfl | rfl | rfl | rfl | rfl | rfl | rfl | rfl | rfl | rfl | rfl | rfl | rfl | rfl | rfl
      · obtain rfl := Option.some.inj ho
        exact hI.stepLoad (by kernel_rfl) hls rfl rfl rfl 33 8 rfl (by kernel_rfl) (w5.heap.size) 5 rfl 33 (#[.int .u64 i0, .int .u64 i1, .int .u64 i2, .int .u64 i3, .int .u64 i4]) Hi5.out _ Try.underlying33 rfl info28 rfl rfl rfl hK'
      · obtain rfl := Option.some.inj ho
        obtain ⟨vp, hvp, hsp⟩ := hI.have 0 _ 25 (.val (.agg #[.int .u64 i0, .int .u64 i1, .int .u64 i2, .int .u64 i3, .int .u64 i4])) rfl rfl rfl (hdep ⟨0, .data⟩ (by simp) rfl)
        obtain rfl := hsp
        exact hI.stepCall (by kernel_rfl) hls rfl rfl rfl 11 #[.tmp 25] _ rfl #[.agg #[.int .u64 i0, .int .u64 i1, .int .u64 i2, .int .u64 i3, .int .u64 i4]] (by simp [eval_of hvp]) enterBytes (.val (.agg (numsA .u8 (digits 256 32 ((na ^ expInv) % pp))))) rfl rfl ((bytes_any i0 i1 i2 i3 i4 (na ^ expInv) _ HFi.out).mono fun _ _ h => ⟨_, h.1, rfl, h.2⟩) hK'
      · obtain rfl := Option.some.inj ho
        exact hI.stepLoad (by kernel_rfl) hls rfl rfl rfl 29 6 rfl (by kernel_rfl) (bU) 16 rfl 29 (numN na) Hn5.out _ Try.underlying29 rfl sizeNum (numN_size _) rfl rfl hK'
      · obtain rfl := Option.some.inj ho
        obtain ⟨vp, hvp, hsp⟩ := hI.have 2 _ 27 (.val (.agg (numN na))) rfl rfl rfl (hdep ⟨2, .data⟩ (by simp) rfl)
        obtain rfl := hsp
        exact hI.stepCall (by kernel_rfl) hls rfl rfl rfl 22 #[.tmp 27] _ rfl #[.agg (numN na)] (by simp [eval_of hvp]) enterrInvert (.like (LikeN (na ^ expInv))) rfl rfl ((rInvert_any na na _ OA.out).mono fun _ _ h => h.sp) hK'
      · obtain rfl := Option.some.inj ho
        obtain ⟨vp, hvp, rp, rfl, hNp⟩ := hI.have 3 _ 28 (.like (LikeN (na ^ expInv))) rfl rfl rfl (hdep ⟨3, .data⟩ (by simp) rfl)
        exact hI.stepCall (by kernel_rfl) hls rfl rfl rfl 8 #[.tmp 28] _ rfl #[.agg (numN rp)] (by simp [eval_of hvp]) enterrBytes (.val (.agg (numsA .u8 (digits 256 32 ((na ^ expInv) % pp))))) rfl rfl ((rBytes_ok rp (na ^ expInv) _ hNp).mono fun _ _ h => ⟨_, h.1, rfl, h.2⟩) hK'
      · obtain rfl := Option.some.inj ho
        obtain ⟨vp, hvp, hsp⟩ := hI.have 1 _ 26 (.val (.agg (numsA .u8 (digits 256 32 ((na ^ expInv) % pp))))) rfl rfl rfl (hdep ⟨1, .data⟩ (by simp) rfl)
        obtain rfl := hsp
        obtain ⟨vq, hvq, hsq⟩ := hI.have 4 _ 29 (.val (.agg (numsA .u8 (digits 256 32 ((na ^ expInv) % pp))))) rfl rfl rfl (hdep ⟨4, .data⟩ (by simp) rfl)
        obtain rfl := hsq
        exact hI.stepPure (by kernel_rfl) hls rfl rfl rfl (.bool false) (run_diffKey rfl (eval_of hvp) (eval_of hvq) (digits_length _ _ _) (digits_length _ _ _) rfl wn) rfl rfl hK'
      · obtain rfl := Option.some.inj ho
        obtain ⟨vp, hvp, hsp⟩ := hI.have 5 _ 30 (.val (.bool false)) rfl rfl rfl (hdep ⟨5, .data⟩ (by simp) rfl)
        obtain rfl := hsp
        exact hI.stepPure (by kernel_rfl) hls rfl rfl rfl (.bool false) (by simp [execOp, eval_of hvp]) rfl rfl hK'
      · obtain rfl := Option.some.inj ho
        obtain ⟨vg, hvg, hsg⟩ := hI.have 6 _ 31 (.val (.bool false)) rfl rfl rfl (hdep ⟨6, .guard⟩ (by simp) rfl)
        obtain rfl := hsg
        exact hI.stepLoad (by kernel_rfl) hls rfl (wanted_of rfl rfl rfl hvg) rfl 33 5 rfl (by kernel_rfl) (bX) 5 rfl 33 (#[.int .u64 x0, .int .u64 x1, .int .u64 x2, .int .u64 x3, .int .u64 x4]) Hx5.out _ Try.underlying33 rfl info28 rfl rfl rfl hK'
      · obtain rfl := Option.some.inj ho
        obtain ⟨vg, hvg, hsg⟩ := hI.have 6 _ 31 (.val (.bool false)) rfl rfl rfl (hdep ⟨6, .guard⟩ (by simp) rfl)
        obtain rfl := hsg
        exact hI.stepLoad (by kernel_rfl) hls rfl (wanted_of rfl rfl rfl hvg) rfl 23 3 rfl (by kernel_rfl) (w.heap.size + 1) 32 rfl 23 (numsA .u8 lc) Hk5.out _ Try.underlying23 rfl sizeKey HCs.out rfl rfl hK'
      · obtain rfl := Option.some.inj ho
        obtain ⟨vg, hvg, hsg⟩ := hI.have 6 _ 31 (.val (.bool false)) rfl rfl rfl (hdep ⟨6, .guard⟩ (by simp) rfl)
        obtain rfl := hsg
        obtain ⟨vp, hvp, hsp⟩ := hI.have 7 _ 32 (.val (.agg #[.int .u64 x0, .int .u64 x1, .int .u64 x2, .int .u64 x3, .int .u64 x4])) rfl rfl rfl (hdep ⟨7, .data⟩ (by simp) rfl)
        obtain rfl := hsp
        obtain ⟨vq, hvq, hsq⟩ := hI.have 8 _ 33 (.val (.agg (numsA .u8 lc))) rfl rfl rfl (hdep ⟨8, .data⟩ (by simp) rfl)
        obtain rfl := hsq
        exact hI.stepCall (by kernel_rfl) hls rfl (wanted_of rfl rfl rfl hvg) rfl 23 #[.tmp 32, .tmp 33] _ rfl #[.agg #[.int .u64 x0, .int .u64 x1, .int .u64 x2, .int .u64 x3, .int .u64 x4], .agg (numsA .u8 lc)] (by simp [eval_of hvp, eval_of hvq]) enterPower' (.elem (na ^ expo lc)) rfl rfl ((power_any x0 x1 x2 x3 x4 na lc _ HFx.out (Hlc.out) (Hdc.out)).mono fun _ _ h => h.sp) hK'
      · obtain rfl := Option.some.inj ho
        obtain ⟨vg, hvg, hsg⟩ := hI.have 6 _ 31 (.val (.bool false)) rfl rfl rfl (hdep ⟨6, .guard⟩ (by simp) rfl)
        obtain rfl := hsg
        obtain ⟨vp, hvp, p0, p1, p2, p3, p4, rfl, hFp⟩ := hI.have 9 _ 34 (.elem (na ^ expo lc)) rfl rfl rfl (hdep ⟨9, .data⟩ (by simp) rfl)
        exact hI.stepCall (by kernel_rfl) hls rfl (wanted_of rfl rfl rfl hvg) rfl 11 #[.tmp 34] _ rfl #[.agg #[.int .u64 p0, .int .u64 p1, .int .u64 p2, .int .u64 p3, .int .u64 p4]] (by simp [eval_of hvp]) enterBytes (.val (.agg (numsA .u8 (digits 256 32 ((na ^ expo lc) % pp))))) rfl rfl ((bytes_any p0 p1 p2 p3 p4 (na ^ expo lc) _ hFp).mono fun _ _ h => ⟨_, h.1, rfl, h.2⟩) hK'
      · obtain rfl := Option.some.inj ho
        obtain ⟨vg, hvg, hsg⟩ := hI.have 6 _ 31 (.val (.bool false)) rfl rfl rfl (hdep ⟨6, .guard⟩ (by simp) rfl)
        obtain rfl := hsg
        exact hI.stepLoad (by kernel_rfl) hls rfl (wanted_of rfl rfl rfl hvg) rfl 29 6 rfl (by kernel_rfl) (bU) 16 rfl 29 (numN na) Hn5.out _ Try.underlying29 rfl sizeNum (numN_size _) rfl rfl hK'
      · obtain rfl := Option.some.inj ho
        obtain ⟨vg, hvg, hsg⟩ := hI.have 6 _ 31 (.val (.bool false)) rfl rfl rfl (hdep ⟨6, .guard⟩ (by simp) rfl)
        obtain rfl := hsg
        exact hI.stepLoad (by kernel_rfl) hls rfl (wanted_of rfl rfl rfl hvg) rfl 23 3 rfl (by kernel_rfl) (w.heap.size + 1) 32 rfl 23 (numsA .u8 lc) Hk5.out _ Try.underlying23 rfl sizeKey HCs.out rfl rfl hK'
      · obtain rfl := Option.some.inj ho
        obtain ⟨vg, hvg, hsg⟩ := hI.have 6 _ 31 (.val (.bool false)) rfl rfl rfl (hdep ⟨6, .guard⟩ (by simp) rfl)
        obtain rfl := hsg
        obtain ⟨vp, hvp, hsp⟩ := hI.have 12 _ 37 (.val (.agg (numsA .u8 lc))) rfl rfl rfl (hdep ⟨12, .data⟩ (by simp) rfl)
        obtain rfl := hsp
        exact hI.stepCall (by kernel_rfl) hls rfl (wanted_of rfl rfl rfl hvg) rfl 9 #[.tmp 37] _ rfl #[.agg (numsA .u8 lc)] (by simp [eval_of hvp]) enterrOf (.val (.agg (numN (keyNum lc)))) rfl rfl ((rOf_any lc _ (Hlc.out) (Hdc.out)).mono fun _ _ h => ⟨_, h.1, rfl, h.2⟩) hK'
      · obtain rfl := Option.some.inj ho
        obtain ⟨vg, hvg, hsg⟩ := hI.have 6 _ 31 (.val (.bool false)) rfl rfl rfl (hdep ⟨6, .guard⟩ (by simp) rfl)
        obtain rfl := hsg
        obtain ⟨vp, hvp, hsp⟩ := hI.have 11 _ 36 (.val (.agg (numN na))) rfl rfl rfl (hdep ⟨11, .data⟩ (by simp) rfl)
        obtain rfl := hsp
        obtain ⟨vq, hvq, hsq⟩ := hI.have 13 _ 38 (.val (.agg (numN (keyNum lc)))) rfl rfl rfl (hdep ⟨13, .data⟩ (by simp) rfl)
        obtain rfl := hsq
        exact hI.stepCall (by kernel_rfl) hls rfl (wanted_of rfl rfl rfl hvg) rfl 24 #[.tmp 36, .tmp 38] _ rfl #[.agg (numN na), .agg (numN (keyNum lc))] (by simp [eval_of hvp, eval_of hvq]) enterrPower (.like (LikeN (na ^ expo lc))) rfl rfl ((rPower_any na na (keyNum lc) _ OA.out (okKey lc).1 (okKey lc).2.1).mono fun _ _ h => by rw [HE.out] at h; exact h.sp) hK'
      · obtain rfl := Option.some.inj ho
        obtain ⟨vg, hvg, hsg⟩ := hI.have 6 _ 31 (.val (.bool false)) rfl rfl rfl (hdep ⟨6, .guard⟩ (by simp) rfl)
        obtain rfl := hsg
        obtain ⟨vp, hvp, rp, rfl, hNp⟩ := hI.have 14 _ 39 (.like (LikeN (na ^ expo lc))) rfl rfl rfl (hdep ⟨14, .data⟩ (by simp) rfl)
        exact hI.stepCall (by kernel_rfl) hls rfl (wanted_of rfl rfl rfl hvg) rfl 8 #[.tmp 39] _ rfl #[.agg (numN rp)] (by simp [eval_of hvp]) enterrBytes (.val (.agg (numsA .u8 (digits 256 32 ((na ^ expo lc) % pp))))) rfl rfl ((rBytes_ok rp (na ^ expo lc) _ hNp).mono fun _ _ h => ⟨_, h.1, rfl, h.2⟩) hK'
      · obtain rfl := Option.some.inj ho
        obtain ⟨vg, hvg, hsg⟩ := hI.have 6 _ 31 (.val (.bool false)) rfl rfl rfl (hdep ⟨6, .guard⟩ (by simp) rfl)
        obtain rfl := hsg
        obtain ⟨vp, hvp, hsp⟩ := hI.have 10 _ 35 (.val (.agg (numsA .u8 (digits 256 32 ((na ^ expo lc) % pp))))) rfl rfl rfl (hdep ⟨10, .data⟩ (by simp) rfl)
        obtain rfl := hsp
        obtain ⟨vq, hvq, hsq⟩ := hI.have 15 _ 40 (.val (.agg (numsA .u8 (digits 256 32 ((na ^ expo lc) % pp))))) rfl rfl rfl (hdep ⟨15, .data⟩ (by simp) rfl)
        obtain rfl := hsq
        exact hI.stepPure (by kernel_rfl) hls rfl (wanted_of rfl rfl rfl hvg) rfl (.bool false) (run_diffKey rfl (eval_of hvp) (eval_of hvq) (digits_length _ _ _) (digits_length _ _ _) rfl wn) rfl rfl hK'
      · obtain rfl := Option.some.inj ho
        obtain ⟨vp, hvp, hsp⟩ := hI.have 6 _ 31 (.val (.bool false)) rfl rfl rfl (hdep ⟨6, .data⟩ (by simp) rfl)
        obtain rfl := hsp
        obtain ⟨vq, hvq, hsq⟩ := hI.have 16 _ 41 (.val (.bool false)) rfl rfl rfl (hdep ⟨16, .data⟩ (by simp) rfl)
        obtain rfl := hsq
        have hct : an.eval (.const (.bool true)) = .bool true := rfl
        exact hI.stepPure (by kernel_rfl) hls rfl rfl rfl (.bool false) (by simp [execOp, eval_of hvp, eval_of hvq, asBool, hct]) rfl rfl hK'
    · intro fuel an wn hf hI
      obtain ⟨vq0, hvq0, hsq0⟩ := hI.have 0 _ 25 (.val (.agg #[.int .u64 i0, .int .u64 i1, .int .u64 i2, .int .u64 i3, .int .u64 i4])) rfl rfl rfl rfl
      obtain rfl := hsq0
      obtain ⟨vq1, hvq1, hsq1⟩ := hI.have 1 _ 26 (.val (.agg (numsA .u8 (digits 256 32 ((na ^ expInv) % pp))))) rfl rfl rfl rfl
      obtain rfl := hsq1
      obtain ⟨vq2, hvq2, hsq2⟩ := hI.have 2 _ 27 (.val (.agg (numN na))) rfl rfl rfl rfl
      obtain rfl := hsq2
      obtain ⟨vq3, hvq3, rq3_, rfl, hNq3⟩ := hI.have 3 _ 28 (.like (LikeN (na ^ expInv))) rfl rfl rfl rfl
      obtain ⟨vq4, hvq4, hsq4⟩ := hI.have 4 _ 29 (.val (.agg (numsA .u8 (digits 256 32 ((na ^ expInv) % pp))))) rfl rfl rfl rfl
      obtain rfl := hsq4
      obtain ⟨vq5, hvq5, hsq5⟩ := hI.have 5 _ 30 (.val (.bool false)) rfl rfl rfl rfl
      obtain rfl := hsq5
      obtain ⟨vq6, hvq6, hsq6⟩ := hI.have 6 _ 31 (.val (.bool false)) rfl rfl rfl rfl
      obtain rfl := hsq6
      obtain ⟨vq7, hvq7, hsq7⟩ := hI.have 7 _ 32 (.val (.agg #[.int .u64 x0, .int .u64 x1, .int .u64 x2, .int .u64 x3, .int .u64 x4])) rfl rfl rfl rfl
      obtain rfl := hsq7
      obtain ⟨vq8, hvq8, hsq8⟩ := hI.have 8 _ 33 (.val (.agg (numsA .u8 lc))) rfl rfl rfl rfl
      obtain rfl := hsq8
      obtain ⟨vq9, hvq9, eq9_0, eq9_1, eq9_2, eq9_3, eq9_4, rfl, hFq9⟩ := hI.have 9 _ 34 (.elem (na ^ expo lc)) rfl rfl rfl rfl
      obtain ⟨vq10, hvq10, hsq10⟩ := hI.have 10 _ 35 (.val (.agg (numsA .u8 (digits 256 32 ((na ^ expo lc) % pp))))) rfl rfl rfl rfl
      obtain rfl := hsq10
      obtain ⟨vq11, hvq11, hsq11⟩ := hI.have 11 _ 36 (.val (.agg (numN na))) rfl rfl rfl rfl
      obtain rfl := hsq11
      obtain ⟨vq12, hvq12, hsq12⟩ := hI.have 12 _ 37 (.val (.agg (numsA .u8 lc))) rfl rfl rfl rfl
      obtain rfl := hsq12
      obtain ⟨vq13, hvq13, hsq13⟩ := hI.have 13 _ 38 (.val (.agg (numN (keyNum lc)))) rfl rfl rfl rfl
      obtain rfl := hsq13
      obtain ⟨vq14, hvq14, rq14_, rfl, hNq14⟩ := hI.have 14 _ 39 (.like (LikeN (na ^ expo lc))) rfl rfl rfl rfl
      obtain ⟨vq15, hvq15, hsq15⟩ := hI.have 15 _ 40 (.val (.agg (numsA .u8 (digits 256 32 ((na ^ expo lc) % pp))))) rfl rfl rfl rfl
      obtain rfl := hsq15
      obtain ⟨vq16, hvq16, hsq16⟩ := hI.have 16 _ 41 (.val (.bool false)) rfl rfl rfl rfl
      obtain rfl := hsq16
      obtain ⟨vq17, hvq17, hsq17⟩ := hI.have 17 _ 42 (.val (.bool false)) rfl rfl rfl rfl
      obtain rfl := hsq17
      have hupd := hI.upd
      have ha := hI.act [(25, .agg #[.int .u64 i0, .int .u64 i1, .int .u64 i2, .int .u64 i3, .int .u64 i4]), (26, .agg (numsA .u8 (digits 256 32 ((na ^ expInv) % pp)))), (27, .agg (numN na)), (28, .agg (numN rq3_)), (29, .agg (numsA .u8 (digits 256 32 ((na ^ expInv) % pp)))), (30, .bool false), (31, .bool false), (32, .agg #[.int .u64 x0, .int .u64 x1, .int .u64 x2, .int .u64 x3, .int .u64 x4]), (33, .agg (numsA .u8 lc)), (34, .agg #[.int .u64 eq9_0, .int .u64 eq9_1, .int .u64 eq9_2, .int .u64 eq9_3, .int .u64 eq9_4]), (35, .agg (numsA .u8 (digits 256 32 ((na ^ expo lc) % pp)))), (36, .agg (numN na)), (37, .agg (numsA .u8 lc)), (38, .agg (numN (keyNum lc))), (39, .agg (numN rq14_)), (40, .agg (numsA .u8 (digits 256 32 ((na ^ expo lc) % pp)))), (41, .bool false), (42, .bool false)] (by simp [hvq0, hvq1, hvq2, hvq3, hvq4, hvq5, hvq6, hvq7, hvq8, hvq9, hvq10, hvq11, hvq12, hvq13, hvq14, hvq15, hvq16, hvq17]) (by kernel_rfl)
      clear hI hvq0 hvq1 hvq2 hvq3 hvq4 hvq5 hvq6 hvq7 hvq8 hvq9 hvq10 hvq11 hvq12 hvq13 hvq14 hvq15 hvq16 hvq17
      subst ha
      simp only [List.foldl_cons, List.foldl_nil, List.setIfInBounds_toArray, List.set_cons_zero, List.set_cons_succ]
      refine wpAny_done (by kernel_rfl) ?_ _
      have Hx7 := Lib.hid (hupd.blk (show Blk _ _ _ _ from Hx5.out) (fun h => h))
      have Hi7 := Lib.hid (hupd.blk (show Blk _ _ _ _ from Hi5.out) (fun h => h))
      have Hu7 := Lib.hid (Hu5.out.drew.trans hupd)
      clear hupd Hx5 Hi5 Hn5 Hk5 Hu5 hFq9 hNq3 hNq14 HE HCs Hlc Hdc
      generalize w5.heap.size = bI at *
      obtain ⟨cx0, cx1, cx2, cx3, cx4⟩ := cells5p Hx7.out
      obtain ⟨ci0, ci1, ci2, ci3, ci4⟩ := cells5p Hi7.out
      go_wp2_with fail
      refine (mul_any x0 x1 x2 x3 x4 i0 i1 i2 i3 i4 na (na ^ expInv) _ HFx.out HFi.out).mono ?_
      rintro e w8 ⟨o0, o1, o2, o3, o4, hFo, rfl, hu⟩
      have HFo := Lib.hid hFo
      have Hx8 := Lib.hid ((hu.blk Hx7.out (fun h => h)).alloc (.cells #[.int .u64 o0, .int .u64 o1, .int .u64 o2, .int .u64 o3, .int .u64 o4] 33))
      have Hi8 := Lib.hid ((hu.blk Hi7.out (fun h => h)).alloc (.cells #[.int .u64 o0, .int .u64 o1, .int .u64 o2, .int .u64 o3, .int .u64 o4] 33))
      have Ho8 := Lib.hid (Blk.at1 w8 #[.int .u64 o0, .int .u64 o1, .int .u64 o2, .int .u64 o3, .int .u64 o4] 33)
      have Hu8 := Lib.hid ((Hu7.out.trans hu).alloc (.cells #[.int .u64 o0, .int .u64 o1, .int .u64 o2, .int .u64 o3, .int .u64 o4] 33))
      clear hu hFo Hx7 Hi7 Hu7 cx0 cx1 cx2 cx3 cx4 ci0 ci1 ci2 ci3 ci4
      obtain ⟨cx0, cx1, cx2, cx3, cx4⟩ := cells5p Hx8.out
      go_wp2_with fail
      refine (isZero_any x0 x1 x2 x3 x4 na _ HFx.out).mono ?_
      rintro e w9 ⟨he, hu⟩
      have Hx9 := Lib.hid (hu.blk Hx8.out (fun h => h))
      have Hi9 := Lib.hid (hu.blk Hi8.out (fun h => h))
      have Ho9 := Lib.hid (hu.blk Ho8.out (fun h => h))
      have Hu9 := Lib.hid (Hu8.out.trans hu)
      clear hu Hx8 Hi8 Ho8 Hu8 cx0 cx1 cx2 cx3 cx4
      generalize w8.heap.size = bO at *
      by_cases hz : na % pp = 0
      · rw [decide_eq_true hz] at he
        subst he
        have HZ := Lib.hid hz
        clear hz
        obtain ⟨co0, co1, co2, co3, co4⟩ := cells5p Ho9.out
        go_wp2_with fail
        refine (isZero_any o0 o1 o2 o3 o4 _ _ HFo.out).mono ?_
        rintro e wa ⟨he, hu⟩
        rw [decide_eq_true (show na * na ^ expInv % pp = 0 from by have h1 := ((cong_zero HZ.out).mul (inv_zero HZ.out)); rw [Int.zero_mul] at h1; rw [(cong_iff _ _).1 h1]; decide)] at he
        subst he
        have Hia := Lib.hid (hu.blk Hi9.out (fun h => h))
        have Hua := Lib.hid (Hu9.out.trans hu)
        clear hu co0 co1 co2 co3 co4
        obtain ⟨ci0, ci1, ci2, ci3, ci4⟩ := cells5p Hia.out
        go_wp2_with fail
        refine (isZero_any i0 i1 i2 i3 i4 _ _ HFi.out).mono ?_
        rintro e wb ⟨he, hu⟩
        rw [decide_eq_true (show na ^ expInv % pp = 0 from by rw [(cong_iff _ _).1 (inv_zero HZ.out)]; decide)] at he
        subst he
        go_wp2
        go_ret
        exact ⟨rfl, Hua.out.trans hu⟩
      · rw [decide_eq_false hz] at he
        subst he
        have HZ := Lib.hid hz
        clear hz
        obtain ⟨bh, hbh⟩ : ∃ bh : Bool, bh = decide (128 ≤ y) := ⟨_, rfl⟩
        rw [← hbh]
        clear hbh
        cases bh
        · go_wp2
          refine wp_region_slots #[true, true, true, true, true, true, true, true, true, true, true, true, true, true, true, true, true] ([.val (.agg #[.int .u64 o0, .int .u64 o1, .int .u64 o2, .int .u64 o3, .int .u64 o4]), .elem (1), .val (.bool true), .val (.bool true), .val (.bool false), .val (.bool true), .val (.bool true), .val undef, .val undef, .val undef, .val undef, .val undef, .val undef, .val undef, .val (.bool true), .val (.bool true), .val (.bool true)] : List SP) (by kernel_rfl) (by kernel_rfl) (by kernel_rfl) ?_ ?_
          · intro i o listed an wn ho hls hst hun hdep hI K' hK'
            have hi : i < 17 := by
              have := idx_lt ho; simp at this; omega
            have hcase : i = 0 ∨ i = 1 ∨ i = 2 ∨ i = 3 ∨ i = 4 ∨ i = 5 ∨ i = 6 ∨ i = 7 ∨ i = 8 ∨ i = 9 ∨ i = 10 ∨ i = 11 ∨ i = 12 ∨ i = 13 ∨ i = 14 ∨ i = 15 ∨ i = 16 := by omega
            rcases hcase with rfl | rfl | rfl | rfl | rfl | rfl | rfl | rfl | rfl | rfl | rfl | rfl | rfl | rfl | rfl | rfl | rfl
            · obtain rfl := Option.some.inj ho
              exact hI.stepLoad (by kernel_rfl) hls rfl rfl rfl 33 9 rfl (by kernel_rfl) (bO) 5 rfl 33 (#[.int .u64 o0, .int .u64 o1, .int .u64 o2, .int .u64 o3, .int .u64 o4]) Ho9.out _ Try.underlying33 rfl info28 rfl rfl rfl hK'
            · obtain rfl := Option.some.inj ho
              exact hI.stepCall (by kernel_rfl) hls rfl rfl rfl 15 #[.const (.int .u32 1)] _ rfl #[.int .u32 1] (by simp [Act.eval]) enterSmall (.elem (1)) rfl rfl ((small_any 1 _ (by omega) (by omega)).mono fun _ _ h => h.sp) hK'
            · obtain rfl := Option.some.inj ho
              obtain ⟨vp, hvp, hsp⟩ := hI.have 0 _ 54 (.val (.agg #[.int .u64 o0, .int .u64 o1, .int .u64 o2, .int .u64 o3, .int .u64 o4])) rfl rfl rfl (hdep ⟨0, .data⟩ (by simp) rfl)
              obtain rfl := hsp
              obtain ⟨vq, hvq, q0, q1, q2, q3, q4, rfl, hFq⟩ := hI.have 1 _ 55 (.elem (1)) rfl rfl rfl (hdep ⟨1, .data⟩ (by simp) rfl)
              exact hI.stepCall (by kernel_rfl) hls rfl rfl rfl 20 #[.tmp 54, .tmp 55] _ rfl #[.agg #[.int .u64 o0, .int .u64 o1, .int .u64 o2, .int .u64 o3, .int .u64 o4], .agg #[.int .u64 q0, .int .u64 q1, .int .u64 q2, .int .u64 q3, .int .u64 q4]] (by simp [eval_of hvp, eval_of hvq]) enterEqual (.val (.bool true)) rfl rfl ((equal_any o0 o1 o2 o3 o4 q0 q1 q2 q3 q4 (na * na ^ expInv) 1 _ HFo.out hFq).mono fun _ _ h => ⟨_, h.1.trans (congrArg (fun b => Ending.returned (.bool b)) (dec_cong (inv_one HZ.out))), rfl, h.2⟩) hK'
            · obtain rfl := Option.some.inj ho
              obtain ⟨vp, hvp, hsp⟩ := hI.have 2 _ 56 (.val (.bool true)) rfl rfl rfl (hdep ⟨2, .data⟩ (by simp) rfl)
              obtain rfl := hsp
              exact hI.stepPure (by kernel_rfl) hls rfl rfl rfl (.bool true) (by simp [execOp, eval_of hvp]) rfl rfl hK'
            · obtain rfl := Option.some.inj ho
              obtain ⟨vg, hvg, hsg⟩ := hI.have 3 _ 57 (.val (.bool true)) rfl rfl rfl (hdep ⟨3, .guard⟩ (by simp) rfl)
              obtain rfl := hsg
              have hold := hI.old (t := 7) (by kernel_rfl) rfl
              exact hI.stepPure (by kernel_rfl) hls rfl (wanted_of rfl rfl rfl hvg) rfl (.bool false) (by simp [execOp, hold]) rfl rfl hK'
            · obtain rfl := Option.some.inj ho
              obtain ⟨vg, hvg, hsg⟩ := hI.have 3 _ 57 (.val (.bool true)) rfl rfl rfl (hdep ⟨3, .guard⟩ (by simp) rfl)
              obtain rfl := hsg
              obtain ⟨vp, hvp, hsp⟩ := hI.have 4 _ 58 (.val (.bool false)) rfl rfl rfl (hdep ⟨4, .data⟩ (by simp) rfl)
              obtain rfl := hsp
              exact hI.stepPure (by kernel_rfl) hls rfl (wanted_of rfl rfl rfl hvg) rfl (.bool true) (run_not rfl (eval_of hvp) wn) rfl rfl hK'
            · obtain rfl := Option.some.inj ho
              obtain ⟨vg, hvg, hsg⟩ := hI.have 3 _ 57 (.val (.bool true)) rfl rfl rfl (hdep ⟨3, .guard⟩ (by simp) rfl)
              obtain rfl := hsg
              obtain ⟨vp, hvp, hsp⟩ := hI.have 5 _ 59 (.val (.bool true)) rfl rfl rfl (hdep ⟨5, .data⟩ (by simp) rfl)
              obtain rfl := hsp
              exact hI.stepPure (by kernel_rfl) hls rfl (wanted_of rfl rfl rfl hvg) rfl (.bool true) (by simp [execOp, eval_of hvp]) rfl rfl hK'
            · obtain rfl := Option.some.inj ho
              obtain ⟨vg, hvg, hsg⟩ := hI.have 6 _ 60 (.val (.bool true)) rfl rfl rfl (hdep ⟨6, .guard⟩ (by simp) rfl)
              obtain rfl := hsg
              exact hI.stepSkip (by kernel_rfl) hls rfl (wanted_not rfl rfl rfl hvg rfl) rfl rfl rfl hK'
            · obtain rfl := Option.some.inj ho
              obtain ⟨vg, hvg, hsg⟩ := hI.have 6 _ 60 (.val (.bool true)) rfl rfl rfl (hdep ⟨6, .guard⟩ (by simp) rfl)
              obtain rfl := hsg
              exact hI.stepSkip (by kernel_rfl) hls rfl (wanted_not rfl rfl rfl hvg rfl) rfl rfl rfl hK'
            · obtain rfl := Option.some.inj ho
              obtain ⟨vg, hvg, hsg⟩ := hI.have 6 _ 60 (.val (.bool true)) rfl rfl rfl (hdep ⟨6, .guard⟩ (by simp) rfl)
              obtain rfl := hsg
              exact hI.stepSkip (by kernel_rfl) hls rfl (wanted_not rfl rfl rfl hvg rfl) rfl rfl rfl hK'
            · obtain rfl := Option.some.inj ho
              obtain ⟨vg, hvg, hsg⟩ := hI.have 6 _ 60 (.val (.bool true)) rfl rfl rfl (hdep ⟨6, .guard⟩ (by simp) rfl)
              obtain rfl := hsg
              exact hI.stepSkip (by kernel_rfl) hls rfl (wanted_not rfl rfl rfl hvg rfl) rfl rfl rfl hK'
            · obtain rfl := Option.some.inj ho
              obtain ⟨vg, hvg, hsg⟩ := hI.have 6 _ 60 (.val (.bool true)) rfl rfl rfl (hdep ⟨6, .guard⟩ (by simp) rfl)
              obtain rfl := hsg
              exact hI.stepSkip (by kernel_rfl) hls rfl (wanted_not rfl rfl rfl hvg rfl) rfl rfl rfl hK'
            · obtain rfl := Option.some.inj ho
              obtain ⟨vg, hvg, hsg⟩ := hI.have 6 _ 60 (.val (.bool true)) rfl rfl rfl (hdep ⟨6, .guard⟩ (by simp) rfl)
              obtain rfl := hsg
              exact hI.stepSkip (by kernel_rfl) hls rfl (wanted_not rfl rfl rfl hvg rfl) rfl rfl rfl hK'
            · obtain rfl := Option.some.inj ho
              obtain ⟨vg, hvg, hsg⟩ := hI.have 6 _ 60 (.val (.bool true)) rfl rfl rfl (hdep ⟨6, .guard⟩ (by simp) rfl)
              obtain rfl := hsg
              exact hI.stepSkip (by kernel_rfl) hls rfl (wanted_not rfl rfl rfl hvg rfl) rfl rfl rfl hK'
            · obtain rfl := Option.some.inj ho
              obtain ⟨vg, hvg, hsg⟩ := hI.have 3 _ 57 (.val (.bool true)) rfl rfl rfl (hdep ⟨3, .guard⟩ (by simp) rfl)
              obtain rfl := hsg
              obtain ⟨vp, hvp, hsp⟩ := hI.have 6 _ 60 (.val (.bool true)) rfl rfl rfl (hdep ⟨6, .data⟩ (by simp) rfl)
              obtain rfl := hsp
              obtain ⟨vq, hvq, hsq⟩ := hI.have 13 _ 67 (.val undef) rfl rfl rfl (hdep ⟨13, .data⟩ (by simp) rfl)
              obtain rfl := hsq
              have hct : an.eval (.const (.bool true)) = .bool true := rfl
              exact hI.stepPure (by kernel_rfl) hls rfl (wanted_of rfl rfl rfl hvg) rfl (.bool true) (by simp [execOp, eval_of hvp, eval_of hvq, asBool, hct]) rfl rfl hK'
            · obtain rfl := Option.some.inj ho
              obtain ⟨vp, hvp, hsp⟩ := hI.have 3 _ 57 (.val (.bool true)) rfl rfl rfl (hdep ⟨3, .data⟩ (by simp) rfl)
              obtain rfl := hsp
              obtain ⟨vq, hvq, hsq⟩ := hI.have 14 _ 68 (.val (.bool true)) rfl rfl rfl (hdep ⟨14, .data⟩ (by simp) rfl)
              obtain rfl := hsq
              have hct : an.eval (.const (.bool true)) = .bool true := rfl
              exact hI.stepPure (by kernel_rfl) hls rfl rfl rfl (.bool true) (by simp [execOp, eval_of hvp, eval_of hvq, asBool, hct]) rfl rfl hK'
            · obtain rfl := Option.some.inj ho
              obtain ⟨vp, hvp, hsp⟩ := hI.have 15 _ 69 (.val (.bool true)) rfl rfl rfl (hdep ⟨15, .data⟩ (by simp) rfl)
              obtain rfl := hsp
              exact hI.stepPure (by kernel_rfl) hls rfl rfl rfl (.bool true) (by simp [execOp, eval_of hvp]) rfl rfl hK'
          · intro fuel an wn hf hI
            obtain ⟨vy0, hvy0, hsy0⟩ := hI.have 0 _ 54 (.val (.agg #[.int .u64 o0, .int .u64 o1, .int .u64 o2, .int .u64 o3, .int .u64 o4])) rfl rfl rfl rfl
            obtain rfl := hsy0
            obtain ⟨vy1, hvy1, ey1_0, ey1_1, ey1_2, ey1_3, ey1_4, rfl, hFy1⟩ := hI.have 1 _ 55 (.elem (1)) rfl rfl rfl rfl
            obtain ⟨vy2, hvy2, hsy2⟩ := hI.have 2 _ 56 (.val (.bool true)) rfl rfl rfl rfl
            obtain rfl := hsy2
            obtain ⟨vy3, hvy3, hsy3⟩ := hI.have 3 _ 57 (.val (.bool true)) rfl rfl rfl rfl
            obtain rfl := hsy3
            obtain ⟨vy4, hvy4, hsy4⟩ := hI.have 4 _ 58 (.val (.bool false)) rfl rfl rfl rfl
            obtain rfl := hsy4
            obtain ⟨vy5, hvy5, hsy5⟩ := hI.have 5 _ 59 (.val (.bool true)) rfl rfl rfl rfl
            obtain rfl := hsy5
            obtain ⟨vy6, hvy6, hsy6⟩ := hI.have 6 _ 60 (.val (.bool true)) rfl rfl rfl rfl
            obtain rfl := hsy6
            obtain ⟨vy7, hvy7, hsy7⟩ := hI.have 7 _ 61 (.val undef) rfl rfl rfl rfl
            obtain rfl := hsy7
            obtain ⟨vy8, hvy8, hsy8⟩ := hI.have 8 _ 62 (.val undef) rfl rfl rfl rfl
            obtain rfl := hsy8
            obtain ⟨vy9, hvy9, hsy9⟩ := hI.have 9 _ 63 (.val undef) rfl rfl rfl rfl
            obtain rfl := hsy9
            obtain ⟨vy10, hvy10, hsy10⟩ := hI.have 10 _ 64 (.val undef) rfl rfl rfl rfl
            obtain rfl := hsy10
            obtain ⟨vy11, hvy11, hsy11⟩ := hI.have 11 _ 65 (.val undef) rfl rfl rfl rfl
            obtain rfl := hsy11
            obtain ⟨vy12, hvy12, hsy12⟩ := hI.have 12 _ 66 (.val undef) rfl rfl rfl rfl
            obtain rfl := hsy12
            obtain ⟨vy13, hvy13, hsy13⟩ := hI.have 13 _ 67 (.val undef) rfl rfl rfl rfl
            obtain rfl := hsy13
            obtain ⟨vy14, hvy14, hsy14⟩ := hI.have 14 _ 68 (.val (.bool true)) rfl rfl rfl rfl
            obtain rfl := hsy14
            obtain ⟨vy15, hvy15, hsy15⟩ := hI.have 15 _ 69 (.val (.bool true)) rfl rfl rfl rfl
            obtain rfl := hsy15
            obtain ⟨vy16, hvy16, hsy16⟩ := hI.have 16 _ 4 (.val (.bool true)) rfl rfl rfl rfl
            obtain rfl := hsy16
            have hupd := hI.upd
            have ha := hI.act [(54, .agg #[.int .u64 o0, .int .u64 o1, .int .u64 o2, .int .u64 o3, .int .u64 o4]), (55, .agg #[.int .u64 ey1_0, .int .u64 ey1_1, .int .u64 ey1_2, .int .u64 ey1_3, .int .u64 ey1_4]), (56, .bool true), (57, .bool true), (58, .bool false), (59, .bool true), (60, .bool true), (61, undef), (62, undef), (63, undef), (64, undef), (65, undef), (66, undef), (67, undef), (68, .bool true), (69, .bool true), (4, .bool true)] (by simp [hvy0, hvy1, hvy2, hvy3, hvy4, hvy5, hvy6, hvy7, hvy8, hvy9, hvy10, hvy11, hvy12, hvy13, hvy14, hvy15, hvy16]) (by kernel_rfl)
            clear hI hvy0 hvy1 hvy2 hvy3 hvy4 hvy5 hvy6 hvy7 hvy8 hvy9 hvy10 hvy11 hvy12 hvy13 hvy14 hvy15 hvy16
            subst ha
            simp only [List.foldl_cons, List.foldl_nil, List.setIfInBounds_toArray, List.set_cons_zero, List.set_cons_succ]
            refine wpAny_done (by kernel_rfl) ?_ _
            go_wp2
            go_ret
            exact ⟨rfl, Hu9.out.drew.trans hupd⟩
        · go_wp2
          refine wp_region_slots #[true, true, true, true, true, true, true, true, true, true, true, true, true, true, true, true, true] ([.val (.agg #[.int .u64 o0, .int .u64 o1, .int .u64 o2, .int .u64 o3, .int .u64 o4]), .elem (1), .val (.bool true), .val (.bool true), .val (.bool true), .val (.bool false), .val (.bool false), .val (.agg #[.int .u64 x0, .int .u64 x1, .int .u64 x2, .int .u64 x3, .int .u64 x4]), .val (.agg (numsA .u8 (keyL 2))), .elem (na ^ expo (keyL 2)), .val (.agg #[.int .u64 x0, .int .u64 x1, .int .u64 x2, .int .u64 x3, .int .u64 x4]), .val (.agg #[.int .u64 x0, .int .u64 x1, .int .u64 x2, .int .u64 x3, .int .u64 x4]), .elem (na * na), .val (.bool true), .val (.bool true), .val (.bool true), .val (.bool true)] : List SP) (by kernel_rfl) (by kernel_rfl) (by kernel_rfl) ?_ ?_
          · intro i o listed an wn ho hls hst hun hdep hI K' hK'
            have hi : i < 17 := by
              have := idx_lt ho; simp at this; omega
            have hcase : i = 0 ∨ i = 1 ∨ i = 2 ∨ i = 3 ∨ i = 4 ∨ i = 5 ∨ i = 6 ∨ i = 7 ∨ i = 8 ∨ i = 9 ∨ i = 10 ∨ i = 11 ∨ i = 12 ∨ i = 13 ∨ i = 14 ∨ i = 15 ∨ i = 16 := by omega
            rcases hcase with rfl | rfl | rfl | rfl | rfl | rfl | rfl | rfl | rfl | rfl | rfl | rfl | rfl | rfl | rfl | rfl | rfl
            · obtain rfl := Option.some.inj ho
              exact hI.stepLoad (by kernel_rfl) hls rfl rfl rfl 33 9 rfl (by kernel_rfl) (bO) 5 rfl 33 (#[.int .u64 o0, .int .u64 o1, .int .u64 o2, .int .u64 o3, .int .u64 o4]) Ho9.out _ Try.underlying33 rfl info28 rfl rfl rfl hK'
            · obtain rfl := Option.some.inj ho
              exact hI.stepCall (by kernel_rfl) hls rfl rfl rfl 15 #[.const (.int .u32 1)] _ rfl #[.int .u32 1] (by simp [Act.eval]) enterSmall (.elem (1)) rfl rfl ((small_any 1 _ (by omega) (by omega)).mono fun _ _ h => h.sp) hK'
            · obtain rfl := Option.some.inj ho
              obtain ⟨vp, hvp, hsp⟩ := hI.have 0 _ 54 (.val (.agg #[.int .u64 o0, .int .u64 o1, .int .u64 o2, .int .u64 o3, .int .u64 o4])) rfl rfl rfl (hdep ⟨0, .data⟩ (by simp) rfl)
              obtain rfl := hsp
              obtain ⟨vq, hvq, q0, q1, q2, q3, q4, rfl, hFq⟩ := hI.have 1 _ 55 (.elem (1)) rfl rfl rfl (hdep ⟨1, .data⟩ (by simp) rfl)
              exact hI.stepCall (by kernel_rfl) hls rfl rfl rfl 20 #[.tmp 54, .tmp 55] _ rfl #[.agg #[.int .u64 o0, .int .u64 o1, .int .u64 o2, .int .u64 o3, .int .u64 o4], .agg #[.int .u64 q0, .int .u64 q1, .int .u64 q2, .int .u64 q3, .int .u64 q4]] (by simp [eval_of hvp, eval_of hvq]) enterEqual (.val (.bool true)) rfl rfl ((equal_any o0 o1 o2 o3 o4 q0 q1 q2 q3 q4 (na * na ^ expInv) 1 _ HFo.out hFq).mono fun _ _ h => ⟨_, h.1.trans (congrArg (fun b => Ending.returned (.bool b)) (dec_cong (inv_one HZ.out))), rfl, h.2⟩) hK'
            · obtain rfl := Option.some.inj ho
              obtain ⟨vp, hvp, hsp⟩ := hI.have 2 _ 56 (.val (.bool true)) rfl rfl rfl (hdep ⟨2, .data⟩ (by simp) rfl)
              obtain rfl := hsp
              exact hI.stepPure (by kernel_rfl) hls rfl rfl rfl (.bool true) (by simp [execOp, eval_of hvp]) rfl rfl hK'
            · obtain rfl := Option.some.inj ho
              obtain ⟨vg, hvg, hsg⟩ := hI.have 3 _ 57 (.val (.bool true)) rfl rfl rfl (hdep ⟨3, .guard⟩ (by simp) rfl)
              obtain rfl := hsg
              have hold := hI.old (t := 7) (by kernel_rfl) rfl
              exact hI.stepPure (by kernel_rfl) hls rfl (wanted_of rfl rfl rfl hvg) rfl (.bool true) (by simp [execOp, hold]) rfl rfl hK'
            · obtain rfl := Option.some.inj ho
              obtain ⟨vg, hvg, hsg⟩ := hI.have 3 _ 57 (.val (.bool true)) rfl rfl rfl (hdep ⟨3, .guard⟩ (by simp) rfl)
              obtain rfl := hsg
              obtain ⟨vp, hvp, hsp⟩ := hI.have 4 _ 58 (.val (.bool true)) rfl rfl rfl (hdep ⟨4, .data⟩ (by simp) rfl)
              obtain rfl := hsp
              exact hI.stepPure (by kernel_rfl) hls rfl (wanted_of rfl rfl rfl hvg) rfl (.bool false) (run_not rfl (eval_of hvp) wn) rfl rfl hK'
            · obtain rfl := Option.some.inj ho
              obtain ⟨vg, hvg, hsg⟩ := hI.have 3 _ 57 (.val (.bool true)) rfl rfl rfl (hdep ⟨3, .guard⟩ (by simp) rfl)
              obtain rfl := hsg
              obtain ⟨vp, hvp, hsp⟩ := hI.have 5 _ 59 (.val (.bool false)) rfl rfl rfl (hdep ⟨5, .data⟩ (by simp) rfl)
              obtain rfl := hsp
              exact hI.stepPure (by kernel_rfl) hls rfl (wanted_of rfl rfl rfl hvg) rfl (.bool false) (by simp [execOp, eval_of hvp]) rfl rfl hK'
            · obtain rfl := Option.some.inj ho
              obtain ⟨vg, hvg, hsg⟩ := hI.have 6 _ 60 (.val (.bool false)) rfl rfl rfl (hdep ⟨6, .guard⟩ (by simp) rfl)
              obtain rfl := hsg
              exact hI.stepLoad (by kernel_rfl) hls rfl (wanted_of rfl rfl rfl hvg) rfl 33 5 rfl (by kernel_rfl) (bX) 5 rfl 33 (#[.int .u64 x0, .int .u64 x1, .int .u64 x2, .int .u64 x3, .int .u64 x4]) Hx9.out _ Try.underlying33 rfl info28 rfl rfl rfl hK'
            · obtain rfl := Option.some.inj ho
              obtain ⟨vg, hvg, hsg⟩ := hI.have 6 _ 60 (.val (.bool false)) rfl rfl rfl (hdep ⟨6, .guard⟩ (by simp) rfl)
              obtain rfl := hsg
              exact hI.stepPure (by kernel_rfl) hls rfl (wanted_of rfl rfl rfl hvg) rfl (.agg (numsA .u8 (keyL 2))) (run_build1 rfl rfl wn) rfl rfl hK'
            · obtain rfl := Option.some.inj ho
              obtain ⟨vg, hvg, hsg⟩ := hI.have 6 _ 60 (.val (.bool false)) rfl rfl rfl (hdep ⟨6, .guard⟩ (by simp) rfl)
              obtain rfl := hsg
              obtain ⟨vp, hvp, hsp⟩ := hI.have 7 _ 61 (.val (.agg #[.int .u64 x0, .int .u64 x1, .int .u64 x2, .int .u64 x3, .int .u64 x4])) rfl rfl rfl (hdep ⟨7, .data⟩ (by simp) rfl)
              obtain rfl := hsp
              obtain ⟨vq, hvq, hsq⟩ := hI.have 8 _ 62 (.val (.agg (numsA .u8 (keyL 2)))) rfl rfl rfl (hdep ⟨8, .data⟩ (by simp) rfl)
              obtain rfl := hsq
              exact hI.stepCall (by kernel_rfl) hls rfl (wanted_of rfl rfl rfl hvg) rfl 23 #[.tmp 61, .tmp 62] _ rfl #[.agg #[.int .u64 x0, .int .u64 x1, .int .u64 x2, .int .u64 x3, .int .u64 x4], .agg (numsA .u8 (keyL 2))] (by simp [eval_of hvp, eval_of hvq]) enterPower' (.elem (na ^ expo (keyL 2))) rfl rfl ((power_any x0 x1 x2 x3 x4 na (keyL 2) _ HFx.out (keyL_length _) (keyL_digs (by omega))).mono fun _ _ h => h.sp) hK'
            · obtain rfl := Option.some.inj ho
              obtain ⟨vg, hvg, hsg⟩ := hI.have 6 _ 60 (.val (.bool false)) rfl rfl rfl (hdep ⟨6, .guard⟩ (by simp) rfl)
              obtain rfl := hsg
              exact hI.stepLoad (by kernel_rfl) hls rfl (wanted_of rfl rfl rfl hvg) rfl 33 5 rfl (by kernel_rfl) (bX) 5 rfl 33 (#[.int .u64 x0, .int .u64 x1, .int .u64 x2, .int .u64 x3, .int .u64 x4]) Hx9.out _ Try.underlying33 rfl info28 rfl rfl rfl hK'
            · obtain rfl := Option.some.inj ho
              obtain ⟨vg, hvg, hsg⟩ := hI.have 6 _ 60 (.val (.bool false)) rfl rfl rfl (hdep ⟨6, .guard⟩ (by simp) rfl)
              obtain rfl := hsg
              exact hI.stepLoad (by kernel_rfl) hls rfl (wanted_of rfl rfl rfl hvg) rfl 33 5 rfl (by kernel_rfl) (bX) 5 rfl 33 (#[.int .u64 x0, .int .u64 x1, .int .u64 x2, .int .u64 x3, .int .u64 x4]) Hx9.out _ Try.underlying33 rfl info28 rfl rfl rfl hK'
            · obtain rfl := Option.some.inj ho
              obtain ⟨vg, hvg, hsg⟩ := hI.have 6 _ 60 (.val (.bool false)) rfl rfl rfl (hdep ⟨6, .guard⟩ (by simp) rfl)
              obtain rfl := hsg
              obtain ⟨vp, hvp, hsp⟩ := hI.have 10 _ 64 (.val (.agg #[.int .u64 x0, .int .u64 x1, .int .u64 x2, .int .u64 x3, .int .u64 x4])) rfl rfl rfl (hdep ⟨10, .data⟩ (by simp) rfl)
              obtain rfl := hsp
              obtain ⟨vq, hvq, hsq⟩ := hI.have 11 _ 65 (.val (.agg #[.int .u64 x0, .int .u64 x1, .int .u64 x2, .int .u64 x3, .int .u64 x4])) rfl rfl rfl (hdep ⟨11, .data⟩ (by simp) rfl)
              obtain rfl := hsq
              exact hI.stepCall (by kernel_rfl) hls rfl (wanted_of rfl rfl rfl hvg) rfl 17 #[.tmp 64, .tmp 65] _ rfl #[.agg #[.int .u64 x0, .int .u64 x1, .int .u64 x2, .int .u64 x3, .int .u64 x4], .agg #[.int .u64 x0, .int .u64 x1, .int .u64 x2, .int .u64 x3, .int .u64 x4]] (by simp [eval_of hvp, eval_of hvq]) enterMul (.elem (na * na)) rfl rfl ((mul_any x0 x1 x2 x3 x4 x0 x1 x2 x3 x4 na na _ HFx.out HFx.out).mono fun _ _ h => h.sp) hK'
            · obtain rfl := Option.some.inj ho
              obtain ⟨vg, hvg, hsg⟩ := hI.have 6 _ 60 (.val (.bool false)) rfl rfl rfl (hdep ⟨6, .guard⟩ (by simp) rfl)
              obtain rfl := hsg
              obtain ⟨vp, hvp, p0, p1, p2, p3, p4, rfl, hFp⟩ := hI.have 9 _ 63 (.elem (na ^ expo (keyL 2))) rfl rfl rfl (hdep ⟨9, .data⟩ (by simp) rfl)
              obtain ⟨vq, hvq, q0, q1, q2, q3, q4, rfl, hFq⟩ := hI.have 12 _ 66 (.elem (na * na)) rfl rfl rfl (hdep ⟨12, .data⟩ (by simp) rfl)
              exact hI.stepCall (by kernel_rfl) hls rfl (wanted_of rfl rfl rfl hvg) rfl 20 #[.tmp 63, .tmp 66] _ rfl #[.agg #[.int .u64 p0, .int .u64 p1, .int .u64 p2, .int .u64 p3, .int .u64 p4], .agg #[.int .u64 q0, .int .u64 q1, .int .u64 q2, .int .u64 q3, .int .u64 q4]] (by simp [eval_of hvp, eval_of hvq]) enterEqual (.val (.bool true)) rfl rfl ((equal_any p0 p1 p2 p3 p4 q0 q1 q2 q3 q4 (na ^ expo (keyL 2)) (na * na) _ hFp hFq).mono fun _ _ h => ⟨_, h.1.trans (congrArg (fun b => Ending.returned (.bool b)) (by rw [expo_keyL 2 (by omega)]; rw [show (2 : Int).toNat = 2 from rfl, Int.pow_succ, Int.pow_succ, Int.pow_zero, Int.one_mul]; simp)), rfl, h.2⟩) hK'
            · obtain rfl := Option.some.inj ho
              obtain ⟨vg, hvg, hsg⟩ := hI.have 3 _ 57 (.val (.bool true)) rfl rfl rfl (hdep ⟨3, .guard⟩ (by simp) rfl)
              obtain rfl := hsg
              obtain ⟨vp, hvp, hsp⟩ := hI.have 6 _ 60 (.val (.bool false)) rfl rfl rfl (hdep ⟨6, .data⟩ (by simp) rfl)
              obtain rfl := hsp
              obtain ⟨vq, hvq, hsq⟩ := hI.have 13 _ 67 (.val (.bool true)) rfl rfl rfl (hdep ⟨13, .data⟩ (by simp) rfl)
              obtain rfl := hsq
              have hct : an.eval (.const (.bool true)) = .bool true := rfl
              exact hI.stepPure (by kernel_rfl) hls rfl (wanted_of rfl rfl rfl hvg) rfl (.bool true) (by simp [execOp, eval_of hvp, eval_of hvq, asBool, hct]) rfl rfl hK'
            · obtain rfl := Option.some.inj ho
              obtain ⟨vp, hvp, hsp⟩ := hI.have 3 _ 57 (.val (.bool true)) rfl rfl rfl (hdep ⟨3, .data⟩ (by simp) rfl)
              obtain rfl := hsp
              obtain ⟨vq, hvq, hsq⟩ := hI.have 14 _ 68 (.val (.bool true)) rfl rfl rfl (hdep ⟨14, .data⟩ (by simp) rfl)
              obtain rfl := hsq
              have hct : an.eval (.const (.bool true)) = .bool true := rfl
              exact hI.stepPure (by kernel_rfl) hls rfl rfl rfl (.bool true) (by simp [execOp, eval_of hvp, eval_of hvq, asBool, hct]) rfl rfl hK'
            · obtain rfl := Option.some.inj ho
              obtain ⟨vp, hvp, hsp⟩ := hI.have 15 _ 69 (.val (.bool true)) rfl rfl rfl (hdep ⟨15, .data⟩ (by simp) rfl)
              obtain rfl := hsp
              exact hI.stepPure (by kernel_rfl) hls rfl rfl rfl (.bool true) (by simp [execOp, eval_of hvp]) rfl rfl hK'
          · intro fuel an wn hf hI
            obtain ⟨vz0, hvz0, hsz0⟩ := hI.have 0 _ 54 (.val (.agg #[.int .u64 o0, .int .u64 o1, .int .u64 o2, .int .u64 o3, .int .u64 o4])) rfl rfl rfl rfl
            obtain rfl := hsz0
            obtain ⟨vz1, hvz1, ez1_0, ez1_1, ez1_2, ez1_3, ez1_4, rfl, hFz1⟩ := hI.have 1 _ 55 (.elem (1)) rfl rfl rfl rfl
            obtain ⟨vz2, hvz2, hsz2⟩ := hI.have 2 _ 56 (.val (.bool true)) rfl rfl rfl rfl
            obtain rfl := hsz2
            obtain ⟨vz3, hvz3, hsz3⟩ := hI.have 3 _ 57 (.val (.bool true)) rfl rfl rfl rfl
            obtain rfl := hsz3
            obtain ⟨vz4, hvz4, hsz4⟩ := hI.have 4 _ 58 (.val (.bool true)) rfl rfl rfl rfl
            obtain rfl := hsz4
            obtain ⟨vz5, hvz5, hsz5⟩ := hI.have 5 _ 59 (.val (.bool false)) rfl rfl rfl rfl
            obtain rfl := hsz5
            obtain ⟨vz6, hvz6, hsz6⟩ := hI.have 6 _ 60 (.val (.bool false)) rfl rfl rfl rfl
            obtain rfl := hsz6
            obtain ⟨vz7, hvz7, hsz7⟩ := hI.have 7 _ 61 (.val (.agg #[.int .u64 x0, .int .u64 x1, .int .u64 x2, .int .u64 x3, .int .u64 x4])) rfl rfl rfl rfl
            obtain rfl := hsz7
            obtain ⟨vz8, hvz8, hsz8⟩ := hI.have 8 _ 62 (.val (.agg (numsA .u8 (keyL 2)))) rfl rfl rfl rfl
            obtain rfl := hsz8
            obtain ⟨vz9, hvz9, ez9_0, ez9_1, ez9_2, ez9_3, ez9_4, rfl, hFz9⟩ := hI.have 9 _ 63 (.elem (na ^ expo (keyL 2))) rfl rfl rfl rfl
            obtain ⟨vz10, hvz10, hsz10⟩ := hI.have 10 _ 64 (.val (.agg #[.int .u64 x0, .int .u64 x1, .int .u64 x2, .int .u64 x3, .int .u64 x4])) rfl rfl rfl rfl
            obtain rfl := hsz10
            obtain ⟨vz11, hvz11, hsz11⟩ := hI.have 11 _ 65 (.val (.agg #[.int .u64 x0, .int .u64 x1, .int .u64 x2, .int .u64 x3, .int .u64 x4])) rfl rfl rfl rfl
            obtain rfl := hsz11
            obtain ⟨vz12, hvz12, ez12_0, ez12_1, ez12_2, ez12_3, ez12_4, rfl, hFz12⟩ := hI.have 12 _ 66 (.elem (na * na)) rfl rfl rfl rfl
            obtain ⟨vz13, hvz13, hsz13⟩ := hI.have 13 _ 67 (.val (.bool true)) rfl rfl rfl rfl
            obtain rfl := hsz13
            obtain ⟨vz14, hvz14, hsz14⟩ := hI.have 14 _ 68 (.val (.bool true)) rfl rfl rfl rfl
            obtain rfl := hsz14
            obtain ⟨vz15, hvz15, hsz15⟩ := hI.have 15 _ 69 (.val (.bool true)) rfl rfl rfl rfl
            obtain rfl := hsz15
            obtain ⟨vz16, hvz16, hsz16⟩ := hI.have 16 _ 4 (.val (.bool true)) rfl rfl rfl rfl
            obtain rfl := hsz16
            have hupd := hI.upd
            have ha := hI.act [(54, .agg #[.int .u64 o0, .int .u64 o1, .int .u64 o2, .int .u64 o3, .int .u64 o4]), (55, .agg #[.int .u64 ez1_0, .int .u64 ez1_1, .int .u64 ez1_2, .int .u64 ez1_3, .int .u64 ez1_4]), (56, .bool true), (57, .bool true), (58, .bool true), (59, .bool false), (60, .bool false), (61, .agg #[.int .u64 x0, .int .u64 x1, .int .u64 x2, .int .u64 x3, .int .u64 x4]), (62, .agg (numsA .u8 (keyL 2))), (63, .agg #[.int .u64 ez9_0, .int .u64 ez9_1, .int .u64 ez9_2, .int .u64 ez9_3, .int .u64 ez9_4]), (64, .agg #[.int .u64 x0, .int .u64 x1, .int .u64 x2, .int .u64 x3, .int .u64 x4]), (65, .agg #[.int .u64 x0, .int .u64 x1, .int .u64 x2, .int .u64 x3, .int .u64 x4]), (66, .agg #[.int .u64 ez12_0, .int .u64 ez12_1, .int .u64 ez12_2, .int .u64 ez12_3, .int .u64 ez12_4]), (67, .bool true), (68, .bool true), (69, .bool true), (4, .bool true)] (by simp [hvz0, hvz1, hvz2, hvz3, hvz4, hvz5, hvz6, hvz7, hvz8, hvz9, hvz10, hvz11, hvz12, hvz13, hvz14, hvz15, hvz16]) (by kernel_rfl)
            clear hI hvz0 hvz1 hvz2 hvz3 hvz4 hvz5 hvz6 hvz7 hvz8 hvz9 hvz10 hvz11 hvz12 hvz13 hvz14 hvz15 hvz16
            subst ha
            simp only [List.foldl_cons, List.foldl_nil, List.setIfInBounds_toArray, List.set_cons_zero, List.set_cons_succ]
            refine wpAny_done (by kernel_rfl) ?_ _
            go_wp2
            go_ret
            exact ⟨rfl, Hu9.out.drew.trans hupd⟩
end Go.Proofs.Ytpjkmocabnnhaaa
