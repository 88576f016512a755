/-
  The walk of FieldAdds.
-/
import Derived.Test.YtpjkmocabnnhaaaDoorRefJ
import Derived.Test.YtpjkmocabnnhaaaDoorSub
import Derived.Deep.DeepCutAuto
namespace Go.Proofs.YtpjkmocabnnhaaaDoor
open Go.RowKit

theorem enterSub (vs : Array Value) (w : World) : (callFunc 14 vs).run Tryd.prog w = .ok (.enter 14 vs) w := run_enter Tryd.func14 (by kernel_rfl) (by kernel_rfl) vs w
theorem enterNeg (vs : Array Value) (w : World) : (callFunc 16 vs).run Tryd.prog w = .ok (.enter 16 vs) w := run_enter Tryd.func16 (by kernel_rfl) (by kernel_rfl) vs w
theorem enterAdd (vs : Array Value) (w : World) : (callFunc 10 vs).run Tryd.prog w = .ok (.enter 10 vs) w := run_enter Tryd.func10 (by kernel_rfl) (by kernel_rfl) vs w
theorem enterEqual (vs : Array Value) (w : World) : (callFunc 18 vs).run Tryd.prog w = .ok (.enter 18 vs) w := run_enter Tryd.func18 (by kernel_rfl) (by kernel_rfl) vs w
theorem enterrSub (vs : Array Value) (w : World) : (callFunc 15 vs).run Tryd.prog w = .ok (.enter 15 vs) w := run_enter Tryd.func15 (by kernel_rfl) (by kernel_rfl) vs w
theorem dec_of' {m n : Int} (h : m = n) : decide (m % pp = n % pp) = true := by rw [h]; simp
set_option maxRecDepth 100000 in
set_option maxHeartbeats 4000000 in
theorem fieldAdds_any (la lb lc : List Int) (w : World) (hT : Tw w) (hla : la.length = 32) (hda : Digs 256 la) (hlb : lb.length = 32) (hdb : Digs 256 lb) (hlc : lc.length = 32) (hdc : Digs 256 lc) :
    Calls Tryd.prog 3 #[.agg (numsA .u8 la), .agg (numsA .u8 lb), .agg (numsA .u8 lc)] w fun e w' => e = .returned (.bool true) ∧ Upd (fun _ => False) w w' := by
  have HT := Lib.hid hT
  clear hT
  have Hla := Lib.hid hla
  have Hda := Lib.hid hda
  have Hlb := Lib.hid hlb
  have Hdb := Lib.hid hdb
  have Hlc := Lib.hid hlc
  have Hdc := Lib.hid hdc
  have HA : Hid ((numsA .u8 la).size = 32) := by show _ = _; rw [numsA_size]; exact hla
  have HB : Hid ((numsA .u8 lb).size = 32) := by show _ = _; rw [numsA_size]; exact hlb
  have HC : Hid ((numsA .u8 lc).size = 32) := by show _ = _; rw [numsA_size]; exact hlc
  clear hla hda hlb hdb hlc hdc
  go_enter Tryd.func3, Tryd.ntmps3
  go_wp2_with fail
  refine (counts_any _).mono ?_
  rintro e w1 ⟨rfl, hu⟩
  have Hka := Lib.hid (hu.blk (((Blk.at1 w (numsA .u8 la) 23).alloc _).alloc _) (fun h => h))
  have Hkb := Lib.hid (hu.blk ((Blk.at2 w _ (numsA .u8 lb) 23).alloc _) (fun h => h))
  have Hkc := Lib.hid (hu.blk (Blk.at3 w _ _ (numsA .u8 lc) 23) (fun h => h))
  have Hu1 := Lib.hid (((((Upd.refl (fun _ => False) w).alloc _).alloc _).alloc _).trans hu)
  clear hu
  go_wp2
  refine wp_region_slots #[true, true, true, true, true, true, true, true, true, false, false, false] ([.val (.agg (numsA .u8 la)), .elem (keyNum la), .val (.agg (numsA .u8 lb)), .elem (keyNum lb), .val (.agg (numsA .u8 lc)), .elem (keyNum lc), .new 28 #[.int .u64 0, .int .u64 0, .int .u64 0, .int .u64 0, .int .u64 0], .new 28 #[.int .u64 0, .int .u64 0, .int .u64 0, .int .u64 0, .int .u64 0], .new 28 #[.int .u64 0, .int .u64 0, .int .u64 0, .int .u64 0, .int .u64 0]] : List SP) (by kernel_rfl) (by kernel_rfl) (by kernel_rfl) ?_ ?_
  · intro i o listed an wn ho hls hst hun hdep hI K' hK'
    have hi : i < 9 := by
      rcases Nat.lt_or_ge i 9 with h | h
      · exact h
      · exfalso
        have hq : i = 9 ∨ i = 10 ∨ i = 11 ∨ 12 ≤ i := by omega
        rcases hq with rfl | rfl | rfl | h2
        · cases hst
        · cases hst
        · cases hst
        · have := idx_lt ho; simp at this; omega
    have hcase : i = 0 ∨ i = 1 ∨ i = 2 ∨ i = 3 ∨ i = 4 ∨ i = 5 ∨ i = 6 ∨ i = 7 ∨ i = 8 := by omega
    rcases hcase with rfl | rfl | rfl | rfl | rfl | rfl | rfl | rfl | rfl
    · obtain rfl := Option.some.inj ho
      exact hI.stepLoad (by kernel_rfl) hls rfl rfl rfl 23 3 rfl (by kernel_rfl) (w.heap.size) 32 rfl 23 (numsA .u8 la) Hka.out _ Tryd.underlying23 rfl sizeKey HA.out rfl rfl hK'
    · obtain rfl := Option.some.inj ho
      obtain ⟨vp, hvp, hsp⟩ := hI.have 0 _ 15 (.val (.agg (numsA .u8 la))) rfl rfl rfl (hdep ⟨0, .data⟩ (by simp) rfl)
      obtain rfl := hsp
      exact hI.stepCall (by kernel_rfl) hls rfl rfl rfl 8 #[.tmp 15] _ rfl #[.agg (numsA .u8 la)] (by simp [eval_of hvp]) enterOf (.elem (keyNum la)) rfl rfl ((of_any la _ (Hla.out) (Hda.out)).mono fun _ _ h => h.sp) hK'
    · obtain rfl := Option.some.inj ho
      exact hI.stepLoad (by kernel_rfl) hls rfl rfl rfl 23 4 rfl (by kernel_rfl) (w.heap.size + 1) 32 rfl 23 (numsA .u8 lb) Hkb.out _ Tryd.underlying23 rfl sizeKey HB.out rfl rfl hK'
    · obtain rfl := Option.some.inj ho
      obtain ⟨vp, hvp, hsp⟩ := hI.have 2 _ 17 (.val (.agg (numsA .u8 lb))) rfl rfl rfl (hdep ⟨2, .data⟩ (by simp) rfl)
      obtain rfl := hsp
      exact hI.stepCall (by kernel_rfl) hls rfl rfl rfl 8 #[.tmp 17] _ rfl #[.agg (numsA .u8 lb)] (by simp [eval_of hvp]) enterOf (.elem (keyNum lb)) rfl rfl ((of_any lb _ (Hlb.out) (Hdb.out)).mono fun _ _ h => h.sp) hK'
    · obtain rfl := Option.some.inj ho
      exact hI.stepLoad (by kernel_rfl) hls rfl rfl rfl 23 5 rfl (by kernel_rfl) (w.heap.size + 1 + 1) 32 rfl 23 (numsA .u8 lc) Hkc.out _ Tryd.underlying23 rfl sizeKey HC.out rfl rfl hK'
    · obtain rfl := Option.some.inj ho
      obtain ⟨vp, hvp, hsp⟩ := hI.have 4 _ 19 (.val (.agg (numsA .u8 lc))) rfl rfl rfl (hdep ⟨4, .data⟩ (by simp) rfl)
      obtain rfl := hsp
      exact hI.stepCall (by kernel_rfl) hls rfl rfl rfl 8 #[.tmp 19] _ rfl #[.agg (numsA .u8 lc)] (by simp [eval_of hvp]) enterOf (.elem (keyNum lc)) rfl rfl ((of_any lc _ (Hlc.out) (Hdc.out)).mono fun _ _ h => h.sp) hK'
    · obtain rfl := Option.some.inj ho
      exact hI.stepAlloc (by kernel_rfl) hls (Nat.le_refl _) (newsB_spec (by kernel_rfl)) rfl rfl rfl 28 rfl #[.int .u64 0, .int .u64 0, .int .u64 0, .int .u64 0, .int .u64 0] zeroE_run rfl hK'
    · obtain rfl := Option.some.inj ho
      exact hI.stepAlloc (by kernel_rfl) hls (Nat.le_refl _) (newsB_spec (by kernel_rfl)) rfl rfl rfl 28 rfl #[.int .u64 0, .int .u64 0, .int .u64 0, .int .u64 0, .int .u64 0] zeroE_run rfl hK'
    · obtain rfl := Option.some.inj ho
      exact hI.stepAlloc (by kernel_rfl) hls (Nat.le_refl _) (newsB_spec (by kernel_rfl)) rfl rfl rfl 28 rfl #[.int .u64 0, .int .u64 0, .int .u64 0, .int .u64 0, .int .u64 0] zeroE_run rfl hK'
  · intro fuel an wn hf hI
    obtain ⟨v0, hv0, hs0⟩ := hI.have 0 _ 15 (.val (.agg (numsA .u8 la))) rfl rfl rfl rfl
    obtain rfl := hs0
    obtain ⟨v1, hv1, e1_0, e1_1, e1_2, e1_3, e1_4, rfl, hF1⟩ := hI.have 1 _ 16 (.elem (keyNum la)) rfl rfl rfl rfl
    obtain ⟨v2, hv2, hs2⟩ := hI.have 2 _ 17 (.val (.agg (numsA .u8 lb))) rfl rfl rfl rfl
    obtain rfl := hs2
    obtain ⟨v3, hv3, e3_0, e3_1, e3_2, e3_3, e3_4, rfl, hF3⟩ := hI.have 3 _ 18 (.elem (keyNum lb)) rfl rfl rfl rfl
    obtain ⟨v4, hv4, hs4⟩ := hI.have 4 _ 19 (.val (.agg (numsA .u8 lc))) rfl rfl rfl rfl
    obtain rfl := hs4
    obtain ⟨v5, hv5, e5_0, e5_1, e5_2, e5_3, e5_4, rfl, hF5⟩ := hI.have 5 _ 20 (.elem (keyNum lc)) rfl rfl rfl rfl
    obtain ⟨v6, hv6, b6, rfl, hn6, hb6⟩ := hI.have 6 _ 7 (.new 28 #[.int .u64 0, .int .u64 0, .int .u64 0, .int .u64 0, .int .u64 0]) rfl rfl rfl rfl
    obtain ⟨v7, hv7, b7, rfl, hn7, hb7⟩ := hI.have 7 _ 8 (.new 28 #[.int .u64 0, .int .u64 0, .int .u64 0, .int .u64 0, .int .u64 0]) rfl rfl rfl rfl
    obtain ⟨v8, hv8, b8, rfl, hn8, hb8⟩ := hI.have 8 _ 9 (.new 28 #[.int .u64 0, .int .u64 0, .int .u64 0, .int .u64 0, .int .u64 0]) rfl rfl rfl rfl
    have hne6_7 : b6 ≠ b7 := fun e => hI.apart 6 7 _ _ 7 8 (by omega) rfl rfl rfl rfl rfl rfl rfl rfl (by rw [hv6, hv7, e])
    have hne6_8 : b6 ≠ b8 := fun e => hI.apart 6 8 _ _ 7 9 (by omega) rfl rfl rfl rfl rfl rfl rfl rfl (by rw [hv6, hv8, e])
    have hne7_8 : b7 ≠ b8 := fun e => hI.apart 7 8 _ _ 8 9 (by omega) rfl rfl rfl rfl rfl rfl rfl rfl (by rw [hv7, hv8, e])
    have hupd := hI.upd
    have ha := hI.act [(15, .agg (numsA .u8 la)), (16, .agg #[.int .u64 e1_0, .int .u64 e1_1, .int .u64 e1_2, .int .u64 e1_3, .int .u64 e1_4]), (17, .agg (numsA .u8 lb)), (18, .agg #[.int .u64 e3_0, .int .u64 e3_1, .int .u64 e3_2, .int .u64 e3_3, .int .u64 e3_4]), (19, .agg (numsA .u8 lc)), (20, .agg #[.int .u64 e5_0, .int .u64 e5_1, .int .u64 e5_2, .int .u64 e5_3, .int .u64 e5_4]), (7, .pointer (some ⟨b6, 0, none⟩)), (8, .pointer (some ⟨b7, 0, none⟩)), (9, .pointer (some ⟨b8, 0, none⟩))] (by simp [hv0, hv1, hv2, hv3, hv4, hv5, hv6, hv7, hv8]) (by kernel_rfl)
    clear hI hv0 hv1 hv2 hv3 hv4 hv5 hv6 hv7 hv8
    subst ha
    simp only [List.foldl_cons, List.foldl_nil, List.setIfInBounds_toArray, List.set_cons_zero, List.set_cons_succ]
    have hf0 : left #[true, true, true, true, true, true, true, true, true, false, false, false] 12 = 3 := by kernel_rfl
    have hf1 : left #[true, true, true, true, true, true, true, true, true, false, false, false] 12 ≤ fuel := hf
    obtain ⟨fu, rfl⟩ : ∃ fu, fuel = fu + 3 := ⟨fuel - 3, by omega⟩
    clear hf hf0 hf1
    refine wpAny_ready (rs := [9]) (by kernel_rfl) (by simp) (AllReady.cons rfl (fun K hK => ?_) AllReady.nil)
    refine step_storeBlk2 rfl 28 (.tmp 7) (.tmp 16) rfl b6 0 5 rfl #[.int .u64 e1_0, .int .u64 e1_1, .int .u64 e1_2, .int .u64 e1_3, .int .u64 e1_4] rfl 28 #[.int .u64 0, .int .u64 0, .int .u64 0, .int .u64 0, .int .u64 0] hb6 info28 rfl (by simp) (one5 _ _ _ _ _) ?_
    intro ws0 hs0 hus0 _
    rw [splice_all _ _ 5 rfl rfl] at hs0
    refine hK _ _ ?_
    clear hK K
    dsimp only [Act.put]
    have hb7_0 := hus0.blk hb7 (fun e => hne6_7 e.symm)
    have hb8_0 := hus0.blk hb8 (fun e => hne6_8 e.symm)
    have hw0 := hupd.step hus0 (fun i hi h => by have := hn6; simp only [World.size_drew] at *; omega)
    refine wpAny_ready (rs := [10]) (by kernel_rfl) (by simp) (AllReady.cons rfl (fun K hK => ?_) AllReady.nil)
    refine step_storeBlk2 rfl 28 (.tmp 8) (.tmp 18) rfl b7 0 5 rfl #[.int .u64 e3_0, .int .u64 e3_1, .int .u64 e3_2, .int .u64 e3_3, .int .u64 e3_4] rfl 28 #[.int .u64 0, .int .u64 0, .int .u64 0, .int .u64 0, .int .u64 0] hb7_0 info28 rfl (by simp) (one5 _ _ _ _ _) ?_
    intro ws1 hs1 hus1 _
    rw [splice_all _ _ 5 rfl rfl] at hs1
    refine hK _ _ ?_
    clear hK K
    dsimp only [Act.put]
    have hb6_1 := hus1.blk hs0 (fun e => hne6_7 e)
    have hb8_1 := hus1.blk hb8_0 (fun e => hne7_8 e.symm)
    have hw1 := hw0.step hus1 (fun i hi h => by have := hn7; simp only [World.size_drew] at *; omega)
    refine wpAny_ready (rs := [11]) (by kernel_rfl) (by simp) (AllReady.cons rfl (fun K hK => ?_) AllReady.nil)
    refine step_storeBlk2 rfl 28 (.tmp 9) (.tmp 20) rfl b8 0 5 rfl #[.int .u64 e5_0, .int .u64 e5_1, .int .u64 e5_2, .int .u64 e5_3, .int .u64 e5_4] rfl 28 #[.int .u64 0, .int .u64 0, .int .u64 0, .int .u64 0, .int .u64 0] hb8_1 info28 rfl (by simp) (one5 _ _ _ _ _) ?_
    intro ws2 hs2 hus2 _
    rw [splice_all _ _ 5 rfl rfl] at hs2
    refine hK _ _ ?_
    clear hK K
    dsimp only [Act.put]
    have hb6_2 := hus2.blk hb6_1 (fun e => hne6_8 e)
    have hb7_2 := hus2.blk hs1 (fun e => hne7_8 e)
    have hw2 := hw1.step hus2 (fun i hi h => by have := hn8; simp only [World.size_drew] at *; omega)
    refine wpAny_done (by kernel_rfl) ?_ _
    have Hx3 := Lib.hid hb6_2
    have Hy3 := Lib.hid hb7_2
    have Hz3 := Lib.hid hs2
    have HFx := Lib.hid hF1
    have HFy := Lib.hid hF3
    have HFz := Lib.hid hF5
    have Hu3 := Lib.hid (Hu1.out.drew.trans hw2)
    have Hka3 := Lib.hid (hw2.blk (show Blk _ _ _ _ from Hka.out) (fun h => h))
    have Hkb3 := Lib.hid (hw2.blk (show Blk _ _ _ _ from Hkb.out) (fun h => h))
    have Hkc3 := Lib.hid (hw2.blk (show Blk _ _ _ _ from Hkc.out) (fun h => h))
    generalize b6 = bX at *
    generalize b7 = bY at *
    generalize b8 = bZ at *
    generalize e1_0 = x0 at *
    generalize e1_1 = x1 at *
    generalize e1_2 = x2 at *
    generalize e1_3 = x3 at *
    generalize e1_4 = x4 at *
    generalize e3_0 = y0 at *
    generalize e3_1 = y1 at *
    generalize e3_2 = y2 at *
    generalize e3_3 = y3 at *
    generalize e3_4 = y4 at *
    generalize e5_0 = z0 at *
    generalize e5_1 = z1 at *
    generalize e5_2 = z2 at *
    generalize e5_3 = z3 at *
    generalize e5_4 = z4 at *
    clear hF1 hF3 hF5 hupd hb6 hb7 hb8 hn6 hn7 hn8 hne6_7 hne6_8 hne7_8 hs0 hus0 hw0 hs1 hus1 hw1 hs2 hus2 hw2 Hka Hkb Hkc Hu1 hb7_0 hb8_0 hb6_1 hb8_1 hb6_2 hb7_2
    go_wp2_with fail
    refine wp_region_slots #[true, true, true, true, true, true, true, true, true, false, false, false] ([.val (.agg (numsA .u8 la)), .val (.agg (numN (keyNum la))), .val (.agg (numsA .u8 lb)), .val (.agg (numN (keyNum lb))), .val (.agg (numsA .u8 lc)), .val (.agg (numN (keyNum lc))), .new 31 zeroN, .new 31 zeroN, .new 31 zeroN] : List SP) (by kernel_rfl) (by kernel_rfl) (by kernel_rfl) ?_ ?_
    · intro i o listed an wn ho hls hst hun hdep hI K' hK'
      have hi : i < 9 := by
        rcases Nat.lt_or_ge i 9 with h | h
        · exact h
        · exfalso
          have hq : i = 9 ∨ i = 10 ∨ i = 11 ∨ 12 ≤ i := by omega
          rcases hq with rfl | rfl | rfl | h2
          · cases hst
          · cases hst
          · cases hst
          · have := idx_lt ho; simp at this; omega
      have hcase : i = 0 ∨ i = 1 ∨ i = 2 ∨ i = 3 ∨ i = 4 ∨ i = 5 ∨ i = 6 ∨ i = 7 ∨ i = 8 := by omega
      rcases hcase with rfl | rfl | rfl | rfl | rfl | rfl | rfl | rfl | rfl
      · obtain rfl := Option.some.inj ho
        exact hI.stepLoad (by kernel_rfl) hls rfl rfl rfl 23 3 rfl (by kernel_rfl) (w.heap.size) 32 rfl 23 (numsA .u8 la) Hka3.out _ Tryd.underlying23 rfl sizeKey HA.out rfl rfl hK'
      · obtain rfl := Option.some.inj ho
        obtain ⟨vp, hvp, hsp⟩ := hI.have 0 _ 21 (.val (.agg (numsA .u8 la))) rfl rfl rfl (hdep ⟨0, .data⟩ (by simp) rfl)
        obtain rfl := hsp
        exact hI.stepCall (by kernel_rfl) hls rfl rfl rfl 9 #[.tmp 21] _ rfl #[.agg (numsA .u8 la)] (by simp [eval_of hvp]) enterrOf (.val (.agg (numN (keyNum la)))) rfl rfl ((rOf_any la _ (Hla.out) (Hda.out)).mono fun _ _ h => ⟨_, h.1, rfl, h.2⟩) hK'
      · obtain rfl := Option.some.inj ho
        exact hI.stepLoad (by kernel_rfl) hls rfl rfl rfl 23 4 rfl (by kernel_rfl) (w.heap.size + 1) 32 rfl 23 (numsA .u8 lb) Hkb3.out _ Tryd.underlying23 rfl sizeKey HB.out rfl rfl hK'
      · obtain rfl := Option.some.inj ho
        obtain ⟨vp, hvp, hsp⟩ := hI.have 2 _ 23 (.val (.agg (numsA .u8 lb))) rfl rfl rfl (hdep ⟨2, .data⟩ (by simp) rfl)
        obtain rfl := hsp
        exact hI.stepCall (by kernel_rfl) hls rfl rfl rfl 9 #[.tmp 23] _ rfl #[.agg (numsA .u8 lb)] (by simp [eval_of hvp]) enterrOf (.val (.agg (numN (keyNum lb)))) rfl rfl ((rOf_any lb _ (Hlb.out) (Hdb.out)).mono fun _ _ h => ⟨_, h.1, rfl, h.2⟩) hK'
      · obtain rfl := Option.some.inj ho
        exact hI.stepLoad (by kernel_rfl) hls rfl rfl rfl 23 5 rfl (by kernel_rfl) (w.heap.size + 1 + 1) 32 rfl 23 (numsA .u8 lc) Hkc3.out _ Tryd.underlying23 rfl sizeKey HC.out rfl rfl hK'
      · obtain rfl := Option.some.inj ho
        obtain ⟨vp, hvp, hsp⟩ := hI.have 4 _ 25 (.val (.agg (numsA .u8 lc))) rfl rfl rfl (hdep ⟨4, .data⟩ (by simp) rfl)
        obtain rfl := hsp
        exact hI.stepCall (by kernel_rfl) hls rfl rfl rfl 9 #[.tmp 25] _ rfl #[.agg (numsA .u8 lc)] (by simp [eval_of hvp]) enterrOf (.val (.agg (numN (keyNum lc)))) rfl rfl ((rOf_any lc _ (Hlc.out) (Hdc.out)).mono fun _ _ h => ⟨_, h.1, rfl, h.2⟩) hK'
      · obtain rfl := Option.some.inj ho
        exact hI.stepAlloc (by kernel_rfl) hls (Nat.le_refl _) (newsB_spec (by kernel_rfl)) rfl rfl rfl 31 rfl zeroN zeroN_run rfl hK'
      · obtain rfl := Option.some.inj ho
        exact hI.stepAlloc (by kernel_rfl) hls (Nat.le_refl _) (newsB_spec (by kernel_rfl)) rfl rfl rfl 31 rfl zeroN zeroN_run rfl hK'
      · obtain rfl := Option.some.inj ho
        exact hI.stepAlloc (by kernel_rfl) hls (Nat.le_refl _) (newsB_spec (by kernel_rfl)) rfl rfl rfl 31 rfl zeroN zeroN_run rfl hK'
    · intro fuel an wn hf hI
      obtain ⟨vq0, hvq0, hsq0⟩ := hI.have 0 _ 21 (.val (.agg (numsA .u8 la))) rfl rfl rfl rfl
      obtain rfl := hsq0
      obtain ⟨vq1, hvq1, hsq1⟩ := hI.have 1 _ 22 (.val (.agg (numN (keyNum la)))) rfl rfl rfl rfl
      obtain rfl := hsq1
      obtain ⟨vq2, hvq2, hsq2⟩ := hI.have 2 _ 23 (.val (.agg (numsA .u8 lb))) rfl rfl rfl rfl
      obtain rfl := hsq2
      obtain ⟨vq3, hvq3, hsq3⟩ := hI.have 3 _ 24 (.val (.agg (numN (keyNum lb)))) rfl rfl rfl rfl
      obtain rfl := hsq3
      obtain ⟨vq4, hvq4, hsq4⟩ := hI.have 4 _ 25 (.val (.agg (numsA .u8 lc))) rfl rfl rfl rfl
      obtain rfl := hsq4
      obtain ⟨vq5, hvq5, hsq5⟩ := hI.have 5 _ 26 (.val (.agg (numN (keyNum lc)))) rfl rfl rfl rfl
      obtain rfl := hsq5
      obtain ⟨vq6, hvq6, bq6, rfl, hnq6, hbq6⟩ := hI.have 6 _ 10 (.new 31 zeroN) rfl rfl rfl rfl
      obtain ⟨vq7, hvq7, bq7, rfl, hnq7, hbq7⟩ := hI.have 7 _ 11 (.new 31 zeroN) rfl rfl rfl rfl
      obtain ⟨vq8, hvq8, bq8, rfl, hnq8, hbq8⟩ := hI.have 8 _ 12 (.new 31 zeroN) rfl rfl rfl rfl
      have hneq6_7 : bq6 ≠ bq7 := fun e => hI.apart 6 7 _ _ 10 11 (by omega) rfl rfl rfl rfl rfl rfl rfl rfl (by rw [hvq6, hvq7, e])
      have hneq6_8 : bq6 ≠ bq8 := fun e => hI.apart 6 8 _ _ 10 12 (by omega) rfl rfl rfl rfl rfl rfl rfl rfl (by rw [hvq6, hvq8, e])
      have hneq7_8 : bq7 ≠ bq8 := fun e => hI.apart 7 8 _ _ 11 12 (by omega) rfl rfl rfl rfl rfl rfl rfl rfl (by rw [hvq7, hvq8, e])
      have hupd := hI.upd
      have ha := hI.act [(21, .agg (numsA .u8 la)), (22, .agg (numN (keyNum la))), (23, .agg (numsA .u8 lb)), (24, .agg (numN (keyNum lb))), (25, .agg (numsA .u8 lc)), (26, .agg (numN (keyNum lc))), (10, .pointer (some ⟨bq6, 0, none⟩)), (11, .pointer (some ⟨bq7, 0, none⟩)), (12, .pointer (some ⟨bq8, 0, none⟩))] (by simp [hvq0, hvq1, hvq2, hvq3, hvq4, hvq5, hvq6, hvq7, hvq8]) (by kernel_rfl)
      clear hI hvq0 hvq1 hvq2 hvq3 hvq4 hvq5 hvq6 hvq7 hvq8
      subst ha
      simp only [List.foldl_cons, List.foldl_nil, List.setIfInBounds_toArray, List.set_cons_zero, List.set_cons_succ]
      have hf0 : left #[true, true, true, true, true, true, true, true, true, false, false, false] 12 = 3 := by kernel_rfl
      have hf1 : left #[true, true, true, true, true, true, true, true, true, false, false, false] 12 ≤ fuel := hf
      obtain ⟨fu, rfl⟩ : ∃ fu, fuel = fu + 3 := ⟨fuel - 3, by omega⟩
      clear hf hf0 hf1
      refine wpAny_ready (rs := [9]) (by kernel_rfl) (by simp) (AllReady.cons rfl (fun K hK => ?_) AllReady.nil)
      refine step_storeBlk2 rfl 31 (.tmp 10) (.tmp 22) rfl bq6 0 16 rfl (numN (keyNum la)) rfl 31 zeroN hbq6 sizeNum (numN_size _) (by rw [zeroN_size]; omega) (numsA_one _ _) ?_
      intro wsq0 hsq0 husq0 _
      rw [splice_all _ _ 16 zeroN_size (numN_size _)] at hsq0
      refine hK _ _ ?_
      clear hK K
      dsimp only [Act.put]
      have hbq7_0 := husq0.blk hbq7 (fun e => hneq6_7 e.symm)
      have hbq8_0 := husq0.blk hbq8 (fun e => hneq6_8 e.symm)
      have hwq0 := hupd.step husq0 (fun i hi h => by have := hnq6; simp only [World.size_drew] at *; omega)
      refine wpAny_ready (rs := [10]) (by kernel_rfl) (by simp) (AllReady.cons rfl (fun K hK => ?_) AllReady.nil)
      refine step_storeBlk2 rfl 31 (.tmp 11) (.tmp 24) rfl bq7 0 16 rfl (numN (keyNum lb)) rfl 31 zeroN hbq7_0 sizeNum (numN_size _) (by rw [zeroN_size]; omega) (numsA_one _ _) ?_
      intro wsq1 hsq1 husq1 _
      rw [splice_all _ _ 16 zeroN_size (numN_size _)] at hsq1
      refine hK _ _ ?_
      clear hK K
      dsimp only [Act.put]
      have hbq6_1 := husq1.blk hsq0 (fun e => hneq6_7 e)
      have hbq8_1 := husq1.blk hbq8_0 (fun e => hneq7_8 e.symm)
      have hwq1 := hwq0.step husq1 (fun i hi h => by have := hnq7; simp only [World.size_drew] at *; omega)
      refine wpAny_ready (rs := [11]) (by kernel_rfl) (by simp) (AllReady.cons rfl (fun K hK => ?_) AllReady.nil)
      refine step_storeBlk2 rfl 31 (.tmp 12) (.tmp 26) rfl bq8 0 16 rfl (numN (keyNum lc)) rfl 31 zeroN hbq8_1 sizeNum (numN_size _) (by rw [zeroN_size]; omega) (numsA_one _ _) ?_
      intro wsq2 hsq2 husq2 _
      rw [splice_all _ _ 16 zeroN_size (numN_size _)] at hsq2
      refine hK _ _ ?_
      clear hK K
      dsimp only [Act.put]
      have hbq6_2 := husq2.blk hbq6_1 (fun e => hneq6_8 e)
      have hbq7_2 := husq2.blk hsq1 (fun e => hneq7_8 e)
      have hwq2 := hwq1.step husq2 (fun i hi h => by have := hnq8; simp only [World.size_drew] at *; omega)
      refine wpAny_done (by kernel_rfl) ?_ _
      have Hu4 := Lib.hid hbq6_2
      have Hv4 := Lib.hid hbq7_2
      have Hw4 := Lib.hid hsq2
      have Hup4 := Lib.hid (Hu3.out.drew.trans hwq2)
      have Hx4 := Lib.hid (hwq2.blk (show Blk _ _ _ _ from Hx3.out) (fun h => h))
      have Hy4 := Lib.hid (hwq2.blk (show Blk _ _ _ _ from Hy3.out) (fun h => h))
      have Hz4 := Lib.hid (hwq2.blk (show Blk _ _ _ _ from Hz3.out) (fun h => h))
      generalize bq6 = bU at *
      generalize bq7 = bV at *
      generalize bq8 = bW at *
      clear hupd hbq6 hbq7 hbq8 hnq6 hnq7 hnq8 hneq6_7 hneq6_8 hneq7_8 hsq0 husq0 hwq0 hsq1 husq1 hwq1 hsq2 husq2 hwq2 Hx3 Hy3 Hz3 Hka3 Hkb3 Hkc3 Hu3 hbq7_0 hbq8_0 hbq6_1 hbq8_1 hbq6_2 hbq7_2
      have OA := Lib.hid (okKey la)
      have OB := Lib.hid (okKey lb)
      have OC := Lib.hid (okKey lc)
      generalize keyNum la = na at *
      generalize keyNum lb = nb at *
      generalize keyNum lc = nc at *
      clear Hla Hlb Hlc Hda Hdb Hdc HA HB HC
      go_wp2_with fail
      refine wp_region_slots #[true, true, true, true, true, true, true, true, true, true, true, true, true, true, true, true, true, true, true, true, true, true, true, true, true, true, true, true, true, true, true, true, true, true, true, true, true, true, true] ([.val (.agg #[.int .u64 x0, .int .u64 x1, .int .u64 x2, .int .u64 x3, .int .u64 x4]), .val (.agg #[.int .u64 y0, .int .u64 y1, .int .u64 y2, .int .u64 y3, .int .u64 y4]), .val (.agg #[.int .u64 z0, .int .u64 z1, .int .u64 z2, .int .u64 z3, .int .u64 z4]), .list [na, nb, nc], .elem (sumTo [na, nb, nc] [na, nb, nc].length), .val (.agg (numsA .u8 (digits 256 32 ((sumTo [na, nb, nc] [na, nb, nc].length) % pp)))), .val (.agg (numN na)), .val (.agg (numN nb)), .like (LikeN (na + nb)), .val (.agg (numN nc)), .like (LikeN ((na + nb) + nc)), .val (.agg (numsA .u8 (digits 256 32 (((na + nb) + nc) % pp)))), .val (.bool true), .val (.bool true), .val (.agg #[.int .u64 x0, .int .u64 x1, .int .u64 x2, .int .u64 x3, .int .u64 x4]), .val (.agg #[.int .u64 y0, .int .u64 y1, .int .u64 y2, .int .u64 y3, .int .u64 y4]), .elem (na - nb), .val (.agg (numsA .u8 (digits 256 32 ((na - nb) % pp)))), .val (.agg (numN na)), .val (.agg (numN nb)), .like (LikeN (na - nb)), .val (.agg (numsA .u8 (digits 256 32 ((na - nb) % pp)))), .val (.bool true), .val (.bool true), .val (.bool true), .val (.agg #[.int .u64 x0, .int .u64 x1, .int .u64 x2, .int .u64 x3, .int .u64 x4]), .elem (-na), .val (.agg (numsA .u8 (digits 256 32 ((-na) % pp)))), .val (.agg (numN na)), .like (LikeN (-na)), .val (.agg (numsA .u8 (digits 256 32 ((-na) % pp)))), .val (.bool true), .val (.bool true), .val (.bool true), .elem (sumTo [] ([] : List Int).length), .elem (0), .val (.bool true), .val (.bool true), .val (.bool true)] : List SP) (by kernel_rfl) (by kernel_rfl) (by kernel_rfl) ?_ ?_
      · intro i o listed an wn ho hls hst hun hdep hI K' hK'
        have hi : i < 39 := by
          have := idx_lt ho; simp at this; omega
        have hcase : i = 0 ∨ i = 1 ∨ i = 2 ∨ i = 3 ∨ i = 4 ∨ i = 5 ∨ i = 6 ∨ i = 7 ∨ i = 8 ∨ i = 9 ∨ i = 10 ∨ i = 11 ∨ i = 12 ∨ i = 13 ∨ i = 14 ∨ i = 15 ∨ i = 16 ∨ i = 17 ∨ i = 18 ∨ i = 19 ∨ i = 20 ∨ i = 21 ∨ i = 22 ∨ i = 23 ∨ i = 24 ∨ i = 25 ∨ i = 26 ∨ i = 27 ∨ i = 28 ∨ i = 29 ∨ i = 30 ∨ i = 31 ∨ i = 32 ∨ i = 33 ∨ i = 34 ∨ i = 35 ∨ i = 36 ∨ i = 37 ∨ i = 38 := by omega
        rcases hcase with rfl | rfl | rfl | rfl | rfl | rfl | rfl | rfl | rfl | rfl | rfl | rfl | rfl | rfl | rfl | rfl | rfl | rfl | rfl | rfl | rfl | rfl | rfl | rfl | rfl | rfl | rfl | rfl | rfl | rfl | rfl | rfl | rfl | rfl | rfl | rfl | rfl | rfl | rfl
        · obtain rfl := Option.some.inj ho
          exact hI.stepLoad (by kernel_rfl) hls rfl rfl rfl 28 7 rfl (by kernel_rfl) (bX) 5 rfl 28 (#[.int .u64 x0, .int .u64 x1, .int .u64 x2, .int .u64 x3, .int .u64 x4]) Hx4.out _ Tryd.underlying28 rfl info28 rfl rfl rfl hK'
        · obtain rfl := Option.some.inj ho
          exact hI.stepLoad (by kernel_rfl) hls rfl rfl rfl 28 8 rfl (by kernel_rfl) (bY) 5 rfl 28 (#[.int .u64 y0, .int .u64 y1, .int .u64 y2, .int .u64 y3, .int .u64 y4]) Hy4.out _ Tryd.underlying28 rfl info28 rfl rfl rfl hK'
        · obtain rfl := Option.some.inj ho
          exact hI.stepLoad (by kernel_rfl) hls rfl rfl rfl 28 9 rfl (by kernel_rfl) (bZ) 5 rfl 28 (#[.int .u64 z0, .int .u64 z1, .int .u64 z2, .int .u64 z3, .int .u64 z4]) Hz4.out _ Tryd.underlying28 rfl info28 rfl rfl rfl hK'
        · obtain rfl := Option.some.inj ho
          obtain ⟨vp, hvp, hsp⟩ := hI.have 0 _ 27 (.val (.agg #[.int .u64 x0, .int .u64 x1, .int .u64 x2, .int .u64 x3, .int .u64 x4])) rfl rfl rfl (hdep ⟨0, .data⟩ (by simp) rfl)
          obtain rfl := hsp
          obtain ⟨vq, hvq, hsq⟩ := hI.have 1 _ 28 (.val (.agg #[.int .u64 y0, .int .u64 y1, .int .u64 y2, .int .u64 y3, .int .u64 y4])) rfl rfl rfl (hdep ⟨1, .data⟩ (by simp) rfl)
          obtain rfl := hsq
          obtain ⟨vr, hvr, hsr⟩ := hI.have 2 _ 29 (.val (.agg #[.int .u64 z0, .int .u64 z1, .int .u64 z2, .int .u64 z3, .int .u64 z4])) rfl rfl rfl (hdep ⟨2, .data⟩ (by simp) rfl)
          obtain rfl := hsr
          exact hI.stepList (by kernel_rfl) hls rfl rfl rfl _ _ [na, nb, nc] _ (run_list3 rfl (eval_of hvp) (eval_of hvq) (eval_of hvr) wn) (ElsAt.mk3 wn x0 x1 x2 x3 x4 y0 y1 y2 y3 y4 z0 z1 z2 z3 z4 na nb nc HFx.out HFy.out HFz.out) rfl rfl hK'
        · obtain rfl := Option.some.inj ho
          obtain ⟨vp, hvp, lp, hLp⟩ := hI.have 3 _ 30 (.list [na, nb, nc]) rfl rfl rfl (hdep ⟨3, .data⟩ (by simp) rfl)
          exact hI.stepCall (by kernel_rfl) hls rfl rfl rfl 10 #[.tmp 30] _ rfl #[vp] (by simp [eval_of hvp]) enterAdd (.elem (sumTo [na, nb, nc] [na, nb, nc].length)) rfl rfl ((add_any _ _ _ _ hLp).mono fun _ _ h => h.sp) hK'
        · obtain rfl := Option.some.inj ho
          obtain ⟨vp, hvp, p0, p1, p2, p3, p4, rfl, hFp⟩ := hI.have 4 _ 31 (.elem (sumTo [na, nb, nc] [na, nb, nc].length)) rfl rfl rfl (hdep ⟨4, .data⟩ (by simp) rfl)
          exact hI.stepCall (by kernel_rfl) hls rfl rfl rfl 11 #[.tmp 31] _ rfl #[.agg #[.int .u64 p0, .int .u64 p1, .int .u64 p2, .int .u64 p3, .int .u64 p4]] (by simp [eval_of hvp]) enterBytes (.val (.agg (numsA .u8 (digits 256 32 ((sumTo [na, nb, nc] [na, nb, nc].length) % pp))))) rfl rfl ((bytes_any p0 p1 p2 p3 p4 (sumTo [na, nb, nc] [na, nb, nc].length) _ hFp).mono fun _ _ h => ⟨_, h.1, rfl, h.2⟩) hK'
        · obtain rfl := Option.some.inj ho
          exact hI.stepLoad (by kernel_rfl) hls rfl rfl rfl 31 10 rfl (by kernel_rfl) (bU) 16 rfl 31 (numN na) Hu4.out _ Tryd.underlying31 rfl sizeNum (numN_size _) rfl rfl hK'
        · obtain rfl := Option.some.inj ho
          exact hI.stepLoad (by kernel_rfl) hls rfl rfl rfl 31 11 rfl (by kernel_rfl) (bV) 16 rfl 31 (numN nb) Hv4.out _ Tryd.underlying31 rfl sizeNum (numN_size _) rfl rfl hK'
        · obtain rfl := Option.some.inj ho
          obtain ⟨vp, hvp, hsp⟩ := hI.have 6 _ 33 (.val (.agg (numN na))) rfl rfl rfl (hdep ⟨6, .data⟩ (by simp) rfl)
          obtain rfl := hsp
          obtain ⟨vq, hvq, hsq⟩ := hI.have 7 _ 34 (.val (.agg (numN nb))) rfl rfl rfl (hdep ⟨7, .data⟩ (by simp) rfl)
          obtain rfl := hsq
          exact hI.stepCall (by kernel_rfl) hls rfl rfl rfl 13 #[.tmp 33, .tmp 34] _ rfl #[.agg (numN na), .agg (numN nb)] (by simp [eval_of hvp, eval_of hvq]) enterrAdd (.like (LikeN (na + nb))) rfl rfl ((rAdd_any na nb na nb _ OA.out OB.out).mono fun _ _ h => h.sp) hK'
        · obtain rfl := Option.some.inj ho
          exact hI.stepLoad (by kernel_rfl) hls rfl rfl rfl 31 12 rfl (by kernel_rfl) (bW) 16 rfl 31 (numN nc) Hw4.out _ Tryd.underlying31 rfl sizeNum (numN_size _) rfl rfl hK'
        · obtain rfl := Option.some.inj ho
          obtain ⟨vp, hvp, rp, rfl, hNp⟩ := hI.have 8 _ 35 (.like (LikeN (na + nb))) rfl rfl rfl (hdep ⟨8, .data⟩ (by simp) rfl)
          obtain ⟨vq, hvq, hsq⟩ := hI.have 9 _ 36 (.val (.agg (numN nc))) rfl rfl rfl (hdep ⟨9, .data⟩ (by simp) rfl)
          obtain rfl := hsq
          exact hI.stepCall (by kernel_rfl) hls rfl rfl rfl 13 #[.tmp 35, .tmp 36] _ rfl #[.agg (numN rp), .agg (numN nc)] (by simp [eval_of hvp, eval_of hvq]) enterrAdd (.like (LikeN ((na + nb) + nc))) rfl rfl ((rAdd_any rp nc (na + nb) nc _ hNp OC.out).mono fun _ _ h => h.sp) hK'
        · obtain rfl := Option.some.inj ho
          obtain ⟨vp, hvp, rp, rfl, hNp⟩ := hI.have 10 _ 37 (.like (LikeN ((na + nb) + nc))) rfl rfl rfl (hdep ⟨10, .data⟩ (by simp) rfl)
          exact hI.stepCall (by kernel_rfl) hls rfl rfl rfl 12 #[.tmp 37] _ rfl #[.agg (numN rp)] (by simp [eval_of hvp]) enterrBytes (.val (.agg (numsA .u8 (digits 256 32 (((na + nb) + nc) % pp))))) rfl rfl ((rBytes_ok rp ((na + nb) + nc) _ hNp).mono fun _ _ h => ⟨_, h.1, rfl, h.2⟩) hK'
        · obtain rfl := Option.some.inj ho
          obtain ⟨vp, hvp, hsp⟩ := hI.have 5 _ 32 (.val (.agg (numsA .u8 (digits 256 32 ((sumTo [na, nb, nc] [na, nb, nc].length) % pp))))) rfl rfl rfl (hdep ⟨5, .data⟩ (by simp) rfl)
          obtain rfl := hsp
          obtain ⟨vq, hvq, hsq⟩ := hI.have 11 _ 38 (.val (.agg (numsA .u8 (digits 256 32 (((na + nb) + nc) % pp))))) rfl rfl rfl (hdep ⟨11, .data⟩ (by simp) rfl)
          obtain rfl := hsq
          exact hI.stepPure (by kernel_rfl) hls rfl rfl rfl (.bool true) (run_sameKey rfl (eval_of hvp) (eval_of hvq) (digits_length _ _ _) (digits_length _ _ _) (bytes_same (by simp [sumTo, prodTo])) wn) rfl rfl hK'
        · obtain rfl := Option.some.inj ho
          obtain ⟨vp, hvp, hsp⟩ := hI.have 12 _ 39 (.val (.bool true)) rfl rfl rfl (hdep ⟨12, .data⟩ (by simp) rfl)
          obtain rfl := hsp
          exact hI.stepPure (by kernel_rfl) hls rfl rfl rfl (.bool true) (by simp [execOp, eval_of hvp]) rfl rfl hK'
        · obtain rfl := Option.some.inj ho
          obtain ⟨vg, hvg, hsg⟩ := hI.have 13 _ 40 (.val (.bool true)) rfl rfl rfl (hdep ⟨13, .guard⟩ (by simp) rfl)
          obtain rfl := hsg
          exact hI.stepLoad (by kernel_rfl) hls rfl (wanted_of rfl rfl rfl hvg) rfl 28 7 rfl (by kernel_rfl) (bX) 5 rfl 28 (#[.int .u64 x0, .int .u64 x1, .int .u64 x2, .int .u64 x3, .int .u64 x4]) Hx4.out _ Tryd.underlying28 rfl info28 rfl rfl rfl hK'
        · obtain rfl := Option.some.inj ho
          obtain ⟨vg, hvg, hsg⟩ := hI.have 13 _ 40 (.val (.bool true)) rfl rfl rfl (hdep ⟨13, .guard⟩ (by simp) rfl)
          obtain rfl := hsg
          exact hI.stepLoad (by kernel_rfl) hls rfl (wanted_of rfl rfl rfl hvg) rfl 28 8 rfl (by kernel_rfl) (bY) 5 rfl 28 (#[.int .u64 y0, .int .u64 y1, .int .u64 y2, .int .u64 y3, .int .u64 y4]) Hy4.out _ Tryd.underlying28 rfl info28 rfl rfl rfl hK'
        · obtain rfl := Option.some.inj ho
          obtain ⟨vg, hvg, hsg⟩ := hI.have 13 _ 40 (.val (.bool true)) rfl rfl rfl (hdep ⟨13, .guard⟩ (by simp) rfl)
          obtain rfl := hsg
          obtain ⟨vp, hvp, hsp⟩ := hI.have 14 _ 41 (.val (.agg #[.int .u64 x0, .int .u64 x1, .int .u64 x2, .int .u64 x3, .int .u64 x4])) rfl rfl rfl (hdep ⟨14, .data⟩ (by simp) rfl)
          obtain rfl := hsp
          obtain ⟨vq, hvq, hsq⟩ := hI.have 15 _ 42 (.val (.agg #[.int .u64 y0, .int .u64 y1, .int .u64 y2, .int .u64 y3, .int .u64 y4])) rfl rfl rfl (hdep ⟨15, .data⟩ (by simp) rfl)
          obtain rfl := hsq
          exact hI.stepCall (by kernel_rfl) hls rfl (wanted_of rfl rfl rfl hvg) rfl 14 #[.tmp 41, .tmp 42] _ rfl #[.agg #[.int .u64 x0, .int .u64 x1, .int .u64 x2, .int .u64 x3, .int .u64 x4], .agg #[.int .u64 y0, .int .u64 y1, .int .u64 y2, .int .u64 y3, .int .u64 y4]] (by simp [eval_of hvp, eval_of hvq]) enterSub (.elem (na - nb)) rfl rfl ((sub_any x0 x1 x2 x3 x4 y0 y1 y2 y3 y4 na nb _ (HT.out.upd (Hup4.out.drew.trans hI.upd)) HFx.out HFy.out).mono fun _ _ h => h.sp) hK'
        · obtain rfl := Option.some.inj ho
          obtain ⟨vg, hvg, hsg⟩ := hI.have 13 _ 40 (.val (.bool true)) rfl rfl rfl (hdep ⟨13, .guard⟩ (by simp) rfl)
          obtain rfl := hsg
          obtain ⟨vp, hvp, p0, p1, p2, p3, p4, rfl, hFp⟩ := hI.have 16 _ 43 (.elem (na - nb)) rfl rfl rfl (hdep ⟨16, .data⟩ (by simp) rfl)
          exact hI.stepCall (by kernel_rfl) hls rfl (wanted_of rfl rfl rfl hvg) rfl 11 #[.tmp 43] _ rfl #[.agg #[.int .u64 p0, .int .u64 p1, .int .u64 p2, .int .u64 p3, .int .u64 p4]] (by simp [eval_of hvp]) enterBytes (.val (.agg (numsA .u8 (digits 256 32 ((na - nb) % pp))))) rfl rfl ((bytes_any p0 p1 p2 p3 p4 (na - nb) _ hFp).mono fun _ _ h => ⟨_, h.1, rfl, h.2⟩) hK'
        · obtain rfl := Option.some.inj ho
          obtain ⟨vg, hvg, hsg⟩ := hI.have 13 _ 40 (.val (.bool true)) rfl rfl rfl (hdep ⟨13, .guard⟩ (by simp) rfl)
          obtain rfl := hsg
          exact hI.stepLoad (by kernel_rfl) hls rfl (wanted_of rfl rfl rfl hvg) rfl 31 10 rfl (by kernel_rfl) (bU) 16 rfl 31 (numN na) Hu4.out _ Tryd.underlying31 rfl sizeNum (numN_size _) rfl rfl hK'
        · obtain rfl := Option.some.inj ho
          obtain ⟨vg, hvg, hsg⟩ := hI.have 13 _ 40 (.val (.bool true)) rfl rfl rfl (hdep ⟨13, .guard⟩ (by simp) rfl)
          obtain rfl := hsg
          exact hI.stepLoad (by kernel_rfl) hls rfl (wanted_of rfl rfl rfl hvg) rfl 31 11 rfl (by kernel_rfl) (bV) 16 rfl 31 (numN nb) Hv4.out _ Tryd.underlying31 rfl sizeNum (numN_size _) rfl rfl hK'
        · obtain rfl := Option.some.inj ho
          obtain ⟨vg, hvg, hsg⟩ := hI.have 13 _ 40 (.val (.bool true)) rfl rfl rfl (hdep ⟨13, .guard⟩ (by simp) rfl)
          obtain rfl := hsg
          obtain ⟨vp, hvp, hsp⟩ := hI.have 18 _ 45 (.val (.agg (numN na))) rfl rfl rfl (hdep ⟨18, .data⟩ (by simp) rfl)
          obtain rfl := hsp
          obtain ⟨vq, hvq, hsq⟩ := hI.have 19 _ 46 (.val (.agg (numN nb))) rfl rfl rfl (hdep ⟨19, .data⟩ (by simp) rfl)
          obtain rfl := hsq
          exact hI.stepCall (by kernel_rfl) hls rfl (wanted_of rfl rfl rfl hvg) rfl 15 #[.tmp 45, .tmp 46] _ rfl #[.agg (numN na), .agg (numN nb)] (by simp [eval_of hvp, eval_of hvq]) enterrSub (.like (LikeN (na - nb))) rfl rfl ((rSub_any na nb na nb _ OA.out OB.out).mono fun _ _ h => h.sp) hK'
        · obtain rfl := Option.some.inj ho
          obtain ⟨vg, hvg, hsg⟩ := hI.have 13 _ 40 (.val (.bool true)) rfl rfl rfl (hdep ⟨13, .guard⟩ (by simp) rfl)
          obtain rfl := hsg
          obtain ⟨vp, hvp, rp, rfl, hNp⟩ := hI.have 20 _ 47 (.like (LikeN (na - nb))) rfl rfl rfl (hdep ⟨20, .data⟩ (by simp) rfl)
          exact hI.stepCall (by kernel_rfl) hls rfl (wanted_of rfl rfl rfl hvg) rfl 12 #[.tmp 47] _ rfl #[.agg (numN rp)] (by simp [eval_of hvp]) enterrBytes (.val (.agg (numsA .u8 (digits 256 32 ((na - nb) % pp))))) rfl rfl ((rBytes_ok rp (na - nb) _ hNp).mono fun _ _ h => ⟨_, h.1, rfl, h.2⟩) hK'
        · obtain rfl := Option.some.inj ho
          obtain ⟨vg, hvg, hsg⟩ := hI.have 13 _ 40 (.val (.bool true)) rfl rfl rfl (hdep ⟨13, .guard⟩ (by simp) rfl)
          obtain rfl := hsg
          obtain ⟨vp, hvp, hsp⟩ := hI.have 17 _ 44 (.val (.agg (numsA .u8 (digits 256 32 ((na - nb) % pp))))) rfl rfl rfl (hdep ⟨17, .data⟩ (by simp) rfl)
          obtain rfl := hsp
          obtain ⟨vq, hvq, hsq⟩ := hI.have 21 _ 48 (.val (.agg (numsA .u8 (digits 256 32 ((na - nb) % pp))))) rfl rfl rfl (hdep ⟨21, .data⟩ (by simp) rfl)
          obtain rfl := hsq
          exact hI.stepPure (by kernel_rfl) hls rfl (wanted_of rfl rfl rfl hvg) rfl (.bool true) (run_sameKey rfl (eval_of hvp) (eval_of hvq) (digits_length _ _ _) (digits_length _ _ _) (bytes_same (by simp [sumTo, prodTo])) wn) rfl rfl hK'
        · obtain rfl := Option.some.inj ho
          obtain ⟨vp, hvp, hsp⟩ := hI.have 13 _ 40 (.val (.bool true)) rfl rfl rfl (hdep ⟨13, .data⟩ (by simp) rfl)
          obtain rfl := hsp
          obtain ⟨vq, hvq, hsq⟩ := hI.have 22 _ 49 (.val (.bool true)) rfl rfl rfl (hdep ⟨22, .data⟩ (by simp) rfl)
          obtain rfl := hsq
          exact hI.stepPure (by kernel_rfl) hls rfl rfl rfl (.bool true) (by simp [execOp, eval_of hvp, eval_of hvq, asBool]) rfl rfl hK'
        · obtain rfl := Option.some.inj ho
          obtain ⟨vp, hvp, hsp⟩ := hI.have 23 _ 50 (.val (.bool true)) rfl rfl rfl (hdep ⟨23, .data⟩ (by simp) rfl)
          obtain rfl := hsp
          exact hI.stepPure (by kernel_rfl) hls rfl rfl rfl (.bool true) (by simp [execOp, eval_of hvp]) rfl rfl hK'
        · obtain rfl := Option.some.inj ho
          obtain ⟨vg, hvg, hsg⟩ := hI.have 24 _ 51 (.val (.bool true)) rfl rfl rfl (hdep ⟨24, .guard⟩ (by simp) rfl)
          obtain rfl := hsg
          exact hI.stepLoad (by kernel_rfl) hls rfl (wanted_of rfl rfl rfl hvg) rfl 28 7 rfl (by kernel_rfl) (bX) 5 rfl 28 (#[.int .u64 x0, .int .u64 x1, .int .u64 x2, .int .u64 x3, .int .u64 x4]) Hx4.out _ Tryd.underlying28 rfl info28 rfl rfl rfl hK'
        · obtain rfl := Option.some.inj ho
          obtain ⟨vg, hvg, hsg⟩ := hI.have 24 _ 51 (.val (.bool true)) rfl rfl rfl (hdep ⟨24, .guard⟩ (by simp) rfl)
          obtain rfl := hsg
          obtain ⟨vp, hvp, hsp⟩ := hI.have 25 _ 52 (.val (.agg #[.int .u64 x0, .int .u64 x1, .int .u64 x2, .int .u64 x3, .int .u64 x4])) rfl rfl rfl (hdep ⟨25, .data⟩ (by simp) rfl)
          obtain rfl := hsp
          exact hI.stepCall (by kernel_rfl) hls rfl (wanted_of rfl rfl rfl hvg) rfl 16 #[.tmp 52] _ rfl #[.agg #[.int .u64 x0, .int .u64 x1, .int .u64 x2, .int .u64 x3, .int .u64 x4]] (by simp [eval_of hvp]) enterNeg (.elem (-na)) rfl rfl ((neg_any x0 x1 x2 x3 x4 na _ (HT.out.upd (Hup4.out.drew.trans hI.upd)) HFx.out).mono fun _ _ h => h.sp) hK'
        · obtain rfl := Option.some.inj ho
          obtain ⟨vg, hvg, hsg⟩ := hI.have 24 _ 51 (.val (.bool true)) rfl rfl rfl (hdep ⟨24, .guard⟩ (by simp) rfl)
          obtain rfl := hsg
          obtain ⟨vp, hvp, p0, p1, p2, p3, p4, rfl, hFp⟩ := hI.have 26 _ 53 (.elem (-na)) rfl rfl rfl (hdep ⟨26, .data⟩ (by simp) rfl)
          exact hI.stepCall (by kernel_rfl) hls rfl (wanted_of rfl rfl rfl hvg) rfl 11 #[.tmp 53] _ rfl #[.agg #[.int .u64 p0, .int .u64 p1, .int .u64 p2, .int .u64 p3, .int .u64 p4]] (by simp [eval_of hvp]) enterBytes (.val (.agg (numsA .u8 (digits 256 32 ((-na) % pp))))) rfl rfl ((bytes_any p0 p1 p2 p3 p4 (-na) _ hFp).mono fun _ _ h => ⟨_, h.1, rfl, h.2⟩) hK'
        · obtain rfl := Option.some.inj ho
          obtain ⟨vg, hvg, hsg⟩ := hI.have 24 _ 51 (.val (.bool true)) rfl rfl rfl (hdep ⟨24, .guard⟩ (by simp) rfl)
          obtain rfl := hsg
          exact hI.stepLoad (by kernel_rfl) hls rfl (wanted_of rfl rfl rfl hvg) rfl 31 10 rfl (by kernel_rfl) (bU) 16 rfl 31 (numN na) Hu4.out _ Tryd.underlying31 rfl sizeNum (numN_size _) rfl rfl hK'
        · obtain rfl := Option.some.inj ho
          obtain ⟨vg, hvg, hsg⟩ := hI.have 24 _ 51 (.val (.bool true)) rfl rfl rfl (hdep ⟨24, .guard⟩ (by simp) rfl)
          obtain rfl := hsg
          obtain ⟨vp, hvp, hsp⟩ := hI.have 28 _ 55 (.val (.agg (numN na))) rfl rfl rfl (hdep ⟨28, .data⟩ (by simp) rfl)
          obtain rfl := hsp
          exact hI.stepCall (by kernel_rfl) hls rfl (wanted_of rfl rfl rfl hvg) rfl 17 #[.tmp 55] _ rfl #[.agg (numN na)] (by simp [eval_of hvp]) enterrNeg (.like (LikeN (-na))) rfl rfl ((rNeg_any na na _ OA.out).mono fun _ _ h => h.sp) hK'
        · obtain rfl := Option.some.inj ho
          obtain ⟨vg, hvg, hsg⟩ := hI.have 24 _ 51 (.val (.bool true)) rfl rfl rfl (hdep ⟨24, .guard⟩ (by simp) rfl)
          obtain rfl := hsg
          obtain ⟨vp, hvp, rp, rfl, hNp⟩ := hI.have 29 _ 56 (.like (LikeN (-na))) rfl rfl rfl (hdep ⟨29, .data⟩ (by simp) rfl)
          exact hI.stepCall (by kernel_rfl) hls rfl (wanted_of rfl rfl rfl hvg) rfl 12 #[.tmp 56] _ rfl #[.agg (numN rp)] (by simp [eval_of hvp]) enterrBytes (.val (.agg (numsA .u8 (digits 256 32 ((-na) % pp))))) rfl rfl ((rBytes_ok rp (-na) _ hNp).mono fun _ _ h => ⟨_, h.1, rfl, h.2⟩) hK'
        · obtain rfl := Option.some.inj ho
          obtain ⟨vg, hvg, hsg⟩ := hI.have 24 _ 51 (.val (.bool true)) rfl rfl rfl (hdep ⟨24, .guard⟩ (by simp) rfl)
          obtain rfl := hsg
          obtain ⟨vp, hvp, hsp⟩ := hI.have 27 _ 54 (.val (.agg (numsA .u8 (digits 256 32 ((-na) % pp))))) rfl rfl rfl (hdep ⟨27, .data⟩ (by simp) rfl)
          obtain rfl := hsp
          obtain ⟨vq, hvq, hsq⟩ := hI.have 30 _ 57 (.val (.agg (numsA .u8 (digits 256 32 ((-na) % pp))))) rfl rfl rfl (hdep ⟨30, .data⟩ (by simp) rfl)
          obtain rfl := hsq
          exact hI.stepPure (by kernel_rfl) hls rfl (wanted_of rfl rfl rfl hvg) rfl (.bool true) (run_sameKey rfl (eval_of hvp) (eval_of hvq) (digits_length _ _ _) (digits_length _ _ _) (bytes_same (by simp [sumTo, prodTo])) wn) rfl rfl hK'
        · obtain rfl := Option.some.inj ho
          obtain ⟨vp, hvp, hsp⟩ := hI.have 24 _ 51 (.val (.bool true)) rfl rfl rfl (hdep ⟨24, .data⟩ (by simp) rfl)
          obtain rfl := hsp
          obtain ⟨vq, hvq, hsq⟩ := hI.have 31 _ 58 (.val (.bool true)) rfl rfl rfl (hdep ⟨31, .data⟩ (by simp) rfl)
          obtain rfl := hsq
          exact hI.stepPure (by kernel_rfl) hls rfl rfl rfl (.bool true) (by simp [execOp, eval_of hvp, eval_of hvq, asBool]) rfl rfl hK'
        · obtain rfl := Option.some.inj ho
          obtain ⟨vp, hvp, hsp⟩ := hI.have 32 _ 59 (.val (.bool true)) rfl rfl rfl (hdep ⟨32, .data⟩ (by simp) rfl)
          obtain rfl := hsp
          exact hI.stepPure (by kernel_rfl) hls rfl rfl rfl (.bool true) (by simp [execOp, eval_of hvp]) rfl rfl hK'
        · obtain rfl := Option.some.inj ho
          obtain ⟨vg, hvg, hsg⟩ := hI.have 33 _ 60 (.val (.bool true)) rfl rfl rfl (hdep ⟨33, .guard⟩ (by simp) rfl)
          obtain rfl := hsg
          exact hI.stepCall (by kernel_rfl) hls rfl (wanted_of rfl rfl rfl hvg) rfl 10 #[.const (.slice none 0 0)] _ rfl #[.slice none 0 0] (by simp [Act.eval]) enterAdd (.elem (sumTo [] ([] : List Int).length)) rfl rfl ((add_any [] [] _ _ (ElsAt.nil _)).mono fun _ _ h => h.sp) hK'
        · obtain rfl := Option.some.inj ho
          obtain ⟨vg, hvg, hsg⟩ := hI.have 33 _ 60 (.val (.bool true)) rfl rfl rfl (hdep ⟨33, .guard⟩ (by simp) rfl)
          obtain rfl := hsg
          exact hI.stepCall (by kernel_rfl) hls rfl (wanted_of rfl rfl rfl hvg) rfl 19 #[.const (.int .u32 0)] _ rfl #[.int .u32 0] (by simp [Act.eval]) enterSmall (.elem (0)) rfl rfl ((small_any 0 _ (by omega) (by omega)).mono fun _ _ h => h.sp) hK'
        · obtain rfl := Option.some.inj ho
          obtain ⟨vg, hvg, hsg⟩ := hI.have 33 _ 60 (.val (.bool true)) rfl rfl rfl (hdep ⟨33, .guard⟩ (by simp) rfl)
          obtain rfl := hsg
          obtain ⟨vp, hvp, p0, p1, p2, p3, p4, rfl, hFp⟩ := hI.have 34 _ 61 (.elem (sumTo [] ([] : List Int).length)) rfl rfl rfl (hdep ⟨34, .data⟩ (by simp) rfl)
          obtain ⟨vq, hvq, q0, q1, q2, q3, q4, rfl, hFq⟩ := hI.have 35 _ 62 (.elem (0)) rfl rfl rfl (hdep ⟨35, .data⟩ (by simp) rfl)
          exact hI.stepCall (by kernel_rfl) hls rfl (wanted_of rfl rfl rfl hvg) rfl 18 #[.tmp 61, .tmp 62] _ rfl #[.agg #[.int .u64 p0, .int .u64 p1, .int .u64 p2, .int .u64 p3, .int .u64 p4], .agg #[.int .u64 q0, .int .u64 q1, .int .u64 q2, .int .u64 q3, .int .u64 q4]] (by simp [eval_of hvp, eval_of hvq]) enterEqual (.val (.bool true)) rfl rfl ((equal_any p0 p1 p2 p3 p4 q0 q1 q2 q3 q4 (sumTo [] ([] : List Int).length) 0 _ hFp hFq).mono fun _ _ h => ⟨_, h.1.trans (congrArg (fun b => Ending.returned (.bool b)) (dec_of' (by simp [sumTo, prodTo]))), rfl, h.2⟩) hK'
        · obtain rfl := Option.some.inj ho
          obtain ⟨vp, hvp, hsp⟩ := hI.have 33 _ 60 (.val (.bool true)) rfl rfl rfl (hdep ⟨33, .data⟩ (by simp) rfl)
          obtain rfl := hsp
          obtain ⟨vq, hvq, hsq⟩ := hI.have 36 _ 63 (.val (.bool true)) rfl rfl rfl (hdep ⟨36, .data⟩ (by simp) rfl)
          obtain rfl := hsq
          exact hI.stepPure (by kernel_rfl) hls rfl rfl rfl (.bool true) (by simp [execOp, eval_of hvp, eval_of hvq, asBool]) rfl rfl hK'
        · obtain rfl := Option.some.inj ho
          obtain ⟨vp, hvp, hsp⟩ := hI.have 37 _ 64 (.val (.bool true)) rfl rfl rfl (hdep ⟨37, .data⟩ (by simp) rfl)
          obtain rfl := hsp
          exact hI.stepPure (by kernel_rfl) hls rfl rfl rfl (.bool true) (by simp [execOp, eval_of hvp]) rfl rfl hK'
      · intro fuel an wn hf hI
        obtain ⟨vs0, hvs0, hss0⟩ := hI.have 0 _ 27 (.val (.agg #[.int .u64 x0, .int .u64 x1, .int .u64 x2, .int .u64 x3, .int .u64 x4])) rfl rfl rfl rfl
        obtain rfl := hss0
        obtain ⟨vs1, hvs1, hss1⟩ := hI.have 1 _ 28 (.val (.agg #[.int .u64 y0, .int .u64 y1, .int .u64 y2, .int .u64 y3, .int .u64 y4])) rfl rfl rfl rfl
        obtain rfl := hss1
        obtain ⟨vs2, hvs2, hss2⟩ := hI.have 2 _ 29 (.val (.agg #[.int .u64 z0, .int .u64 z1, .int .u64 z2, .int .u64 z3, .int .u64 z4])) rfl rfl rfl rfl
        obtain rfl := hss2
        obtain ⟨vs3, hvs3, -⟩ := hI.have 3 _ 30 (.list [na, nb, nc]) rfl rfl rfl rfl
        obtain ⟨vs4, hvs4, es4_0, es4_1, es4_2, es4_3, es4_4, rfl, hFs4⟩ := hI.have 4 _ 31 (.elem (sumTo [na, nb, nc] [na, nb, nc].length)) rfl rfl rfl rfl
        obtain ⟨vs5, hvs5, hss5⟩ := hI.have 5 _ 32 (.val (.agg (numsA .u8 (digits 256 32 ((sumTo [na, nb, nc] [na, nb, nc].length) % pp))))) rfl rfl rfl rfl
        obtain rfl := hss5
        obtain ⟨vs6, hvs6, hss6⟩ := hI.have 6 _ 33 (.val (.agg (numN na))) rfl rfl rfl rfl
        obtain rfl := hss6
        obtain ⟨vs7, hvs7, hss7⟩ := hI.have 7 _ 34 (.val (.agg (numN nb))) rfl rfl rfl rfl
        obtain rfl := hss7
        obtain ⟨vs8, hvs8, rs8_, rfl, hNs8⟩ := hI.have 8 _ 35 (.like (LikeN (na + nb))) rfl rfl rfl rfl
        obtain ⟨vs9, hvs9, hss9⟩ := hI.have 9 _ 36 (.val (.agg (numN nc))) rfl rfl rfl rfl
        obtain rfl := hss9
        obtain ⟨vs10, hvs10, rs10_, rfl, hNs10⟩ := hI.have 10 _ 37 (.like (LikeN ((na + nb) + nc))) rfl rfl rfl rfl
        obtain ⟨vs11, hvs11, hss11⟩ := hI.have 11 _ 38 (.val (.agg (numsA .u8 (digits 256 32 (((na + nb) + nc) % pp))))) rfl rfl rfl rfl
        obtain rfl := hss11
        obtain ⟨vs12, hvs12, hss12⟩ := hI.have 12 _ 39 (.val (.bool true)) rfl rfl rfl rfl
        obtain rfl := hss12
        obtain ⟨vs13, hvs13, hss13⟩ := hI.have 13 _ 40 (.val (.bool true)) rfl rfl rfl rfl
        obtain rfl := hss13
        obtain ⟨vs14, hvs14, hss14⟩ := hI.have 14 _ 41 (.val (.agg #[.int .u64 x0, .int .u64 x1, .int .u64 x2, .int .u64 x3, .int .u64 x4])) rfl rfl rfl rfl
        obtain rfl := hss14
        obtain ⟨vs15, hvs15, hss15⟩ := hI.have 15 _ 42 (.val (.agg #[.int .u64 y0, .int .u64 y1, .int .u64 y2, .int .u64 y3, .int .u64 y4])) rfl rfl rfl rfl
        obtain rfl := hss15
        obtain ⟨vs16, hvs16, es16_0, es16_1, es16_2, es16_3, es16_4, rfl, hFs16⟩ := hI.have 16 _ 43 (.elem (na - nb)) rfl rfl rfl rfl
        obtain ⟨vs17, hvs17, hss17⟩ := hI.have 17 _ 44 (.val (.agg (numsA .u8 (digits 256 32 ((na - nb) % pp))))) rfl rfl rfl rfl
        obtain rfl := hss17
        obtain ⟨vs18, hvs18, hss18⟩ := hI.have 18 _ 45 (.val (.agg (numN na))) rfl rfl rfl rfl
        obtain rfl := hss18
        obtain ⟨vs19, hvs19, hss19⟩ := hI.have 19 _ 46 (.val (.agg (numN nb))) rfl rfl rfl rfl
        obtain rfl := hss19
        obtain ⟨vs20, hvs20, rs20_, rfl, hNs20⟩ := hI.have 20 _ 47 (.like (LikeN (na - nb))) rfl rfl rfl rfl
        obtain ⟨vs21, hvs21, hss21⟩ := hI.have 21 _ 48 (.val (.agg (numsA .u8 (digits 256 32 ((na - nb) % pp))))) rfl rfl rfl rfl
        obtain rfl := hss21
        obtain ⟨vs22, hvs22, hss22⟩ := hI.have 22 _ 49 (.val (.bool true)) rfl rfl rfl rfl
        obtain rfl := hss22
        obtain ⟨vs23, hvs23, hss23⟩ := hI.have 23 _ 50 (.val (.bool true)) rfl rfl rfl rfl
        obtain rfl := hss23
        obtain ⟨vs24, hvs24, hss24⟩ := hI.have 24 _ 51 (.val (.bool true)) rfl rfl rfl rfl
        obtain rfl := hss24
        obtain ⟨vs25, hvs25, hss25⟩ := hI.have 25 _ 52 (.val (.agg #[.int .u64 x0, .int .u64 x1, .int .u64 x2, .int .u64 x3, .int .u64 x4])) rfl rfl rfl rfl
        obtain rfl := hss25
        obtain ⟨vs26, hvs26, es26_0, es26_1, es26_2, es26_3, es26_4, rfl, hFs26⟩ := hI.have 26 _ 53 (.elem (-na)) rfl rfl rfl rfl
        obtain ⟨vs27, hvs27, hss27⟩ := hI.have 27 _ 54 (.val (.agg (numsA .u8 (digits 256 32 ((-na) % pp))))) rfl rfl rfl rfl
        obtain rfl := hss27
        obtain ⟨vs28, hvs28, hss28⟩ := hI.have 28 _ 55 (.val (.agg (numN na))) rfl rfl rfl rfl
        obtain rfl := hss28
        obtain ⟨vs29, hvs29, rs29_, rfl, hNs29⟩ := hI.have 29 _ 56 (.like (LikeN (-na))) rfl rfl rfl rfl
        obtain ⟨vs30, hvs30, hss30⟩ := hI.have 30 _ 57 (.val (.agg (numsA .u8 (digits 256 32 ((-na) % pp))))) rfl rfl rfl rfl
        obtain rfl := hss30
        obtain ⟨vs31, hvs31, hss31⟩ := hI.have 31 _ 58 (.val (.bool true)) rfl rfl rfl rfl
        obtain rfl := hss31
        obtain ⟨vs32, hvs32, hss32⟩ := hI.have 32 _ 59 (.val (.bool true)) rfl rfl rfl rfl
        obtain rfl := hss32
        obtain ⟨vs33, hvs33, hss33⟩ := hI.have 33 _ 60 (.val (.bool true)) rfl rfl rfl rfl
        obtain rfl := hss33
        obtain ⟨vs34, hvs34, es34_0, es34_1, es34_2, es34_3, es34_4, rfl, hFs34⟩ := hI.have 34 _ 61 (.elem (sumTo [] ([] : List Int).length)) rfl rfl rfl rfl
        obtain ⟨vs35, hvs35, es35_0, es35_1, es35_2, es35_3, es35_4, rfl, hFs35⟩ := hI.have 35 _ 62 (.elem (0)) rfl rfl rfl rfl
        obtain ⟨vs36, hvs36, hss36⟩ := hI.have 36 _ 63 (.val (.bool true)) rfl rfl rfl rfl
        obtain rfl := hss36
        obtain ⟨vs37, hvs37, hss37⟩ := hI.have 37 _ 64 (.val (.bool true)) rfl rfl rfl rfl
        obtain rfl := hss37
        obtain ⟨vs38, hvs38, hss38⟩ := hI.have 38 _ 6 (.val (.bool true)) rfl rfl rfl rfl
        obtain rfl := hss38
        have hupd := hI.upd
        have ha := hI.act [(27, .agg #[.int .u64 x0, .int .u64 x1, .int .u64 x2, .int .u64 x3, .int .u64 x4]), (28, .agg #[.int .u64 y0, .int .u64 y1, .int .u64 y2, .int .u64 y3, .int .u64 y4]), (29, .agg #[.int .u64 z0, .int .u64 z1, .int .u64 z2, .int .u64 z3, .int .u64 z4]), (30, vs3), (31, .agg #[.int .u64 es4_0, .int .u64 es4_1, .int .u64 es4_2, .int .u64 es4_3, .int .u64 es4_4]), (32, .agg (numsA .u8 (digits 256 32 ((sumTo [na, nb, nc] [na, nb, nc].length) % pp)))), (33, .agg (numN na)), (34, .agg (numN nb)), (35, .agg (numN rs8_)), (36, .agg (numN nc)), (37, .agg (numN rs10_)), (38, .agg (numsA .u8 (digits 256 32 (((na + nb) + nc) % pp)))), (39, .bool true), (40, .bool true), (41, .agg #[.int .u64 x0, .int .u64 x1, .int .u64 x2, .int .u64 x3, .int .u64 x4]), (42, .agg #[.int .u64 y0, .int .u64 y1, .int .u64 y2, .int .u64 y3, .int .u64 y4]), (43, .agg #[.int .u64 es16_0, .int .u64 es16_1, .int .u64 es16_2, .int .u64 es16_3, .int .u64 es16_4]), (44, .agg (numsA .u8 (digits 256 32 ((na - nb) % pp)))), (45, .agg (numN na)), (46, .agg (numN nb)), (47, .agg (numN rs20_)), (48, .agg (numsA .u8 (digits 256 32 ((na - nb) % pp)))), (49, .bool true), (50, .bool true), (51, .bool true), (52, .agg #[.int .u64 x0, .int .u64 x1, .int .u64 x2, .int .u64 x3, .int .u64 x4]), (53, .agg #[.int .u64 es26_0, .int .u64 es26_1, .int .u64 es26_2, .int .u64 es26_3, .int .u64 es26_4]), (54, .agg (numsA .u8 (digits 256 32 ((-na) % pp)))), (55, .agg (numN na)), (56, .agg (numN rs29_)), (57, .agg (numsA .u8 (digits 256 32 ((-na) % pp)))), (58, .bool true), (59, .bool true), (60, .bool true), (61, .agg #[.int .u64 es34_0, .int .u64 es34_1, .int .u64 es34_2, .int .u64 es34_3, .int .u64 es34_4]), (62, .agg #[.int .u64 es35_0, .int .u64 es35_1, .int .u64 es35_2, .int .u64 es35_3, .int .u64 es35_4]), (63, .bool true), (64, .bool true), (6, .bool true)] (by simp [hvs0, hvs1, hvs2, hvs3, hvs4, hvs5, hvs6, hvs7, hvs8, hvs9, hvs10, hvs11, hvs12, hvs13, hvs14, hvs15, hvs16, hvs17, hvs18, hvs19, hvs20, hvs21, hvs22, hvs23, hvs24, hvs25, hvs26, hvs27, hvs28, hvs29, hvs30, hvs31, hvs32, hvs33, hvs34, hvs35, hvs36, hvs37, hvs38]) (by kernel_rfl)
        clear hI hvs0 hvs1 hvs2 hvs3 hvs4 hvs5 hvs6 hvs7 hvs8 hvs9 hvs10 hvs11 hvs12 hvs13 hvs14 hvs15 hvs16 hvs17 hvs18 hvs19 hvs20 hvs21 hvs22 hvs23 hvs24 hvs25 hvs26 hvs27 hvs28 hvs29 hvs30 hvs31 hvs32 hvs33 hvs34 hvs35 hvs36 hvs37 hvs38
        subst ha
        simp only [List.foldl_cons, List.foldl_nil, List.setIfInBounds_toArray, List.set_cons_zero, List.set_cons_succ]
        refine wpAny_done (by kernel_rfl) ?_ _
        go_wp2
        go_ret
        exact ⟨rfl, Hup4.out.drew.trans hupd⟩
end Go.Proofs.YtpjkmocabnnhaaaDoor
