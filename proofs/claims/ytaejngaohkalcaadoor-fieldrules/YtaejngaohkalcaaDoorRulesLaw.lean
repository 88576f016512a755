/-
  The walk of FieldRules.
-/
import Derived.Test.YtaejngaohkalcaaDoorCanon
import Derived.Test.YtaejngaohkalcaaDoorSub
import Derived.Deep.DeepCutAuto
namespace Go.Proofs.YtaejngaohkalcaaDoor
open Go.RowKit

theorem enterMul (vs : Array Value) (w : World) : (callFunc 28 vs).run Tryd.prog w = .ok (.enter 28 vs) w := run_enter Tryd.func28 (by kernel_rfl) (by kernel_rfl) vs w
theorem enterSub (vs : Array Value) (w : World) : (callFunc 14 vs).run Tryd.prog w = .ok (.enter 14 vs) w := run_enter Tryd.func14 (by kernel_rfl) (by kernel_rfl) vs w
theorem enterNeg (vs : Array Value) (w : World) : (callFunc 16 vs).run Tryd.prog w = .ok (.enter 16 vs) w := run_enter Tryd.func16 (by kernel_rfl) (by kernel_rfl) vs w
theorem enterAdd (vs : Array Value) (w : World) : (callFunc 10 vs).run Tryd.prog w = .ok (.enter 10 vs) w := run_enter Tryd.func10 (by kernel_rfl) (by kernel_rfl) vs w
theorem enterSmall (vs : Array Value) (w : World) : (callFunc 19 vs).run Tryd.prog w = .ok (.enter 19 vs) w := run_enter Tryd.func19 (by kernel_rfl) (by kernel_rfl) vs w
theorem enterEqual (vs : Array Value) (w : World) : (callFunc 18 vs).run Tryd.prog w = .ok (.enter 18 vs) w := run_enter Tryd.func18 (by kernel_rfl) (by kernel_rfl) vs w
theorem enterCanonical (vs : Array Value) (w : World) : (callFunc 30 vs).run Tryd.prog w = .ok (.enter 30 vs) w := run_enter Tryd.func30 (by kernel_rfl) (by kernel_rfl) vs w
theorem Blk.cells5r {w : World} {b : Nat} {t : TypeId} {v0 v1 v2 v3 v4 : Value} (h : Blk w b t #[v0, v1, v2, v3, v4]) :
    w.cell? ⟨b, 0, none⟩ = some v0 ∧ w.cell? ⟨b, 1, none⟩ = some v1 ∧ w.cell? ⟨b, 2, none⟩ = some v2 ∧ w.cell? ⟨b, 3, none⟩ = some v3 ∧ w.cell? ⟨b, 4, none⟩ = some v4 :=
  ⟨h.cell 0, h.cell 1, h.cell 2, h.cell 3, h.cell 4⟩
theorem dec_of {m n : Int} (h : m = n) : decide (m % pp = n % pp) = true := by rw [h]; simp
theorem rules_left (a b c : Int) : a * sumTo [b, c] [b, c].length = sumTo [a * b, a * c] [a * b, a * c].length := by
  show a * (0 + b + c) = 0 + a * b + a * c
  rw [Int.zero_add, Int.zero_add, Int.mul_add]
theorem rules_neg (a : Int) : sumTo [a, -a] [a, -a].length = 0 := by
  show 0 + a + -a = 0
  omega
theorem rules_back (a b : Int) : sumTo [a, b] [a, b].length - b = a := by
  show 0 + a + b - b = a
  omega
theorem dec_key (n : Int) : decide (keyNum (digits 256 32 (n % pp)) % pp = n % pp) = true := by
  rw [keyNum_digits, Int.emod_emod_of_dvd _ (Int.dvd_refl _)]
  simp
set_option maxRecDepth 100000 in
set_option maxHeartbeats 4000000 in
theorem fieldRules_any (la lb lc : List Int) (w : World) (hT : Tw w) (hla : la.length = 32) (hda : Digs 256 la) (hlb : lb.length = 32) (hdb : Digs 256 lb) (hlc : lc.length = 32) (hdc : Digs 256 lc) :
    Calls Tryd.prog 5 #[.agg (numsA .u8 la), .agg (numsA .u8 lb), .agg (numsA .u8 lc)] w fun e w' => e = .returned (.bool true) ∧ Upd (fun _ => False) w w' := by
  have HT := Lib.hid hT
  have Hla := Lib.hid hla
  have Hda := Lib.hid hda
  have Hlb := Lib.hid hlb
  have Hdb := Lib.hid hdb
  have Hlc := Lib.hid hlc
  have Hdc := Lib.hid hdc
  have HA : Hid ((numsA .u8 la).size = 32) := by show _ = _; rw [numsA_size]; exact hla
  have HB : Hid ((numsA .u8 lb).size = 32) := by show _ = _; rw [numsA_size]; exact hlb
  have HC : Hid ((numsA .u8 lc).size = 32) := by show _ = _; rw [numsA_size]; exact hlc
  clear hT hla hda hlb hdb hlc hdc
  go_enter Tryd.func5, Tryd.ntmps5
  go_wp2_with fail
  refine (counts_any _).mono ?_
  rintro e w1 ⟨rfl, hu⟩
  have Hka := Lib.hid (hu.blk (((Blk.at1 w (numsA .u8 la) 23).alloc _).alloc _) (fun h => h))
  have Hkb := Lib.hid (hu.blk ((Blk.at2 w _ (numsA .u8 lb) 23).alloc _) (fun h => h))
  have Hkc := Lib.hid (hu.blk (Blk.at3 w _ _ (numsA .u8 lc) 23) (fun h => h))
  have Hu1 := Lib.hid (((((Upd.refl (fun _ => False) w).alloc _).alloc _).alloc _).trans hu)
  clear hu
  go_wp2
  go_cut [7, 8, 9] (fun s7 s8 s9 wx => ∃ (b7 b8 b9 : Nat) (x0 x1 x2 x3 x4 y0 y1 y2 y3 y4 z0 z1 z2 z3 z4 : Int), s7 = .pointer (some ⟨b7, 0, none⟩) ∧ s8 = .pointer (some ⟨b8, 0, none⟩) ∧ s9 = .pointer (some ⟨b9, 0, none⟩) ∧ Upd (fun _ => False) w1 wx ∧
    Blk wx b7 28 #[.int .u64 x0, .int .u64 x1, .int .u64 x2, .int .u64 x3, .int .u64 x4] ∧ Blk wx b8 28 #[.int .u64 y0, .int .u64 y1, .int .u64 y2, .int .u64 y3, .int .u64 y4] ∧ Blk wx b9 28 #[.int .u64 z0, .int .u64 z1, .int .u64 z2, .int .u64 z3, .int .u64 z4] ∧
    Fits x0 x1 x2 x3 x4 (keyNum la) ∧ Fits y0 y1 y2 y3 y4 (keyNum lb * keyNum lc) ∧ Fits z0 z1 z2 z3 z4 (keyNum lc - keyNum la))
  case first =>
    refine wp_region_slots #[true, true, true, true, true, true, true, true, true, true, true, true, true, true, true, false, false, false] ([.val (.agg (numsA .u8 la)), .elem (keyNum la), .val (.agg (numsA .u8 lb)), .elem (keyNum lb), .val (.agg (numsA .u8 lc)), .elem (keyNum lc), .elem ((keyNum lb) * (keyNum lc)), .val (.agg (numsA .u8 lc)), .elem (keyNum lc), .val (.agg (numsA .u8 la)), .elem (keyNum la), .elem ((keyNum lc) - (keyNum la)), .new 28 #[.int .u64 0, .int .u64 0, .int .u64 0, .int .u64 0, .int .u64 0], .new 28 #[.int .u64 0, .int .u64 0, .int .u64 0, .int .u64 0, .int .u64 0], .new 28 #[.int .u64 0, .int .u64 0, .int .u64 0, .int .u64 0, .int .u64 0]] : List SP) (by kernel_rfl) (by kernel_rfl) (by kernel_rfl) ?_ ?_
    · intro i o listed an wn ho hls hst hun hdep hI K' hK'
      have hi : i < 15 := by
        rcases Nat.lt_or_ge i 15 with h | h
        · exact h
        · exfalso
          have hq : i = 15 ∨ i = 16 ∨ i = 17 ∨ 18 ≤ i := by omega
          rcases hq with rfl | rfl | rfl | h2
          · cases hst
          · cases hst
          · cases hst
          · have := idx_lt ho; simp at this; omega
      have hcase : i = 0 ∨ i = 1 ∨ i = 2 ∨ i = 3 ∨ i = 4 ∨ i = 5 ∨ i = 6 ∨ i = 7 ∨ i = 8 ∨ i = 9 ∨ i = 10 ∨ i = 11 ∨ i = 12 ∨ i = 13 ∨ i = 14 := by omega
      rcases hcase with rfl | rfl | rfl | rfl | rfl | rfl | rfl | rfl | rfl | rfl | rfl | rfl | rfl | rfl | rfl
      · obtain rfl := Option.some.inj ho
        exact hI.stepLoad (by kernel_rfl) hls rfl rfl rfl 23 3 rfl (by kernel_rfl) (w.heap.size) 32 rfl 23 (numsA .u8 la) Hka.out _ Tryd.underlying23 rfl sizeKey HA.out rfl rfl hK'
      · obtain rfl := Option.some.inj ho
        obtain ⟨vp, hvp, hsp⟩ := hI.have 0 _ 18 (.val (.agg (numsA .u8 la))) rfl rfl rfl (hdep ⟨0, .data⟩ (by simp) rfl)
        obtain rfl := hsp
        exact hI.stepCall (by kernel_rfl) hls rfl rfl rfl 8 #[.tmp 18] _ rfl #[.agg (numsA .u8 la)] (by simp [eval_of hvp]) enterOf (.elem (keyNum la)) rfl rfl ((of_any la _ (Hla.out) (Hda.out)).mono fun _ _ h => h.sp) hK'
      · obtain rfl := Option.some.inj ho
        exact hI.stepLoad (by kernel_rfl) hls rfl rfl rfl 23 4 rfl (by kernel_rfl) (w.heap.size + 1) 32 rfl 23 (numsA .u8 lb) Hkb.out _ Tryd.underlying23 rfl sizeKey HB.out rfl rfl hK'
      · obtain rfl := Option.some.inj ho
        obtain ⟨vp, hvp, hsp⟩ := hI.have 2 _ 20 (.val (.agg (numsA .u8 lb))) rfl rfl rfl (hdep ⟨2, .data⟩ (by simp) rfl)
        obtain rfl := hsp
        exact hI.stepCall (by kernel_rfl) hls rfl rfl rfl 8 #[.tmp 20] _ rfl #[.agg (numsA .u8 lb)] (by simp [eval_of hvp]) enterOf (.elem (keyNum lb)) rfl rfl ((of_any lb _ (Hlb.out) (Hdb.out)).mono fun _ _ h => h.sp) hK'
      · obtain rfl := Option.some.inj ho
        exact hI.stepLoad (by kernel_rfl) hls rfl rfl rfl 23 5 rfl (by kernel_rfl) (w.heap.size + 1 + 1) 32 rfl 23 (numsA .u8 lc) Hkc.out _ Tryd.underlying23 rfl sizeKey HC.out rfl rfl hK'
      · obtain rfl := Option.some.inj ho
        obtain ⟨vp, hvp, hsp⟩ := hI.have 4 _ 22 (.val (.agg (numsA .u8 lc))) rfl rfl rfl (hdep ⟨4, .data⟩ (by simp) rfl)
        obtain rfl := hsp
        exact hI.stepCall (by kernel_rfl) hls rfl rfl rfl 8 #[.tmp 22] _ rfl #[.agg (numsA .u8 lc)] (by simp [eval_of hvp]) enterOf (.elem (keyNum lc)) rfl rfl ((of_any lc _ (Hlc.out) (Hdc.out)).mono fun _ _ h => h.sp) hK'
      · obtain rfl := Option.some.inj ho
        obtain ⟨vp, hvp, p0, p1, p2, p3, p4, rfl, hFp⟩ := hI.have 3 _ 21 (.elem (keyNum lb)) rfl rfl rfl (hdep ⟨3, .data⟩ (by simp) rfl)
        obtain ⟨vq, hvq, q0, q1, q2, q3, q4, rfl, hFq⟩ := hI.have 5 _ 23 (.elem (keyNum lc)) rfl rfl rfl (hdep ⟨5, .data⟩ (by simp) rfl)
        exact hI.stepCall (by kernel_rfl) hls rfl rfl rfl 28 #[.tmp 21, .tmp 23] _ rfl #[.agg #[.int .u64 p0, .int .u64 p1, .int .u64 p2, .int .u64 p3, .int .u64 p4], .agg #[.int .u64 q0, .int .u64 q1, .int .u64 q2, .int .u64 q3, .int .u64 q4]] (by simp [eval_of hvp, eval_of hvq]) enterMul (.elem ((keyNum lb) * (keyNum lc))) rfl rfl ((mul_any p0 p1 p2 p3 p4 q0 q1 q2 q3 q4 (keyNum lb) (keyNum lc) _ hFp hFq).mono fun _ _ h => h.sp) hK'
      · obtain rfl := Option.some.inj ho
        exact hI.stepLoad (by kernel_rfl) hls rfl rfl rfl 23 5 rfl (by kernel_rfl) (w.heap.size + 1 + 1) 32 rfl 23 (numsA .u8 lc) Hkc.out _ Tryd.underlying23 rfl sizeKey HC.out rfl rfl hK'
      · obtain rfl := Option.some.inj ho
        obtain ⟨vp, hvp, hsp⟩ := hI.have 7 _ 25 (.val (.agg (numsA .u8 lc))) rfl rfl rfl (hdep ⟨7, .data⟩ (by simp) rfl)
        obtain rfl := hsp
        exact hI.stepCall (by kernel_rfl) hls rfl rfl rfl 8 #[.tmp 25] _ rfl #[.agg (numsA .u8 lc)] (by simp [eval_of hvp]) enterOf (.elem (keyNum lc)) rfl rfl ((of_any lc _ (Hlc.out) (Hdc.out)).mono fun _ _ h => h.sp) hK'
      · obtain rfl := Option.some.inj ho
        exact hI.stepLoad (by kernel_rfl) hls rfl rfl rfl 23 3 rfl (by kernel_rfl) (w.heap.size) 32 rfl 23 (numsA .u8 la) Hka.out _ Tryd.underlying23 rfl sizeKey HA.out rfl rfl hK'
      · obtain rfl := Option.some.inj ho
        obtain ⟨vp, hvp, hsp⟩ := hI.have 9 _ 27 (.val (.agg (numsA .u8 la))) rfl rfl rfl (hdep ⟨9, .data⟩ (by simp) rfl)
        obtain rfl := hsp
        exact hI.stepCall (by kernel_rfl) hls rfl rfl rfl 8 #[.tmp 27] _ rfl #[.agg (numsA .u8 la)] (by simp [eval_of hvp]) enterOf (.elem (keyNum la)) rfl rfl ((of_any la _ (Hla.out) (Hda.out)).mono fun _ _ h => h.sp) hK'
      · obtain rfl := Option.some.inj ho
        obtain ⟨vp, hvp, p0, p1, p2, p3, p4, rfl, hFp⟩ := hI.have 8 _ 26 (.elem (keyNum lc)) rfl rfl rfl (hdep ⟨8, .data⟩ (by simp) rfl)
        obtain ⟨vq, hvq, q0, q1, q2, q3, q4, rfl, hFq⟩ := hI.have 10 _ 28 (.elem (keyNum la)) rfl rfl rfl (hdep ⟨10, .data⟩ (by simp) rfl)
        exact hI.stepCall (by kernel_rfl) hls rfl rfl rfl 14 #[.tmp 26, .tmp 28] _ rfl #[.agg #[.int .u64 p0, .int .u64 p1, .int .u64 p2, .int .u64 p3, .int .u64 p4], .agg #[.int .u64 q0, .int .u64 q1, .int .u64 q2, .int .u64 q3, .int .u64 q4]] (by simp [eval_of hvp, eval_of hvq]) enterSub (.elem ((keyNum lc) - (keyNum la))) rfl rfl ((sub_any p0 p1 p2 p3 p4 q0 q1 q2 q3 q4 (keyNum lc) (keyNum la) _ (HT.out.upd (Hu1.out.drew.trans hI.upd)) hFp hFq).mono fun _ _ h => h.sp) hK'
      · obtain rfl := Option.some.inj ho
        exact hI.stepAlloc (by kernel_rfl) hls (Nat.le_refl _) (newsB_spec (by kernel_rfl)) rfl rfl rfl 28 rfl #[.int .u64 0, .int .u64 0, .int .u64 0, .int .u64 0, .int .u64 0] zeroE_run rfl hK'
      · obtain rfl := Option.some.inj ho
        exact hI.stepAlloc (by kernel_rfl) hls (Nat.le_refl _) (newsB_spec (by kernel_rfl)) rfl rfl rfl 28 rfl #[.int .u64 0, .int .u64 0, .int .u64 0, .int .u64 0, .int .u64 0] zeroE_run rfl hK'
      · obtain rfl := Option.some.inj ho
        exact hI.stepAlloc (by kernel_rfl) hls (Nat.le_refl _) (newsB_spec (by kernel_rfl)) rfl rfl rfl 28 rfl #[.int .u64 0, .int .u64 0, .int .u64 0, .int .u64 0, .int .u64 0] zeroE_run rfl hK'
    · intro fuel an wn hf hI
      obtain ⟨v0, hv0, hs0⟩ := hI.have 0 _ 18 (.val (.agg (numsA .u8 la))) rfl rfl rfl rfl
      obtain rfl := hs0
      obtain ⟨v1, hv1, e1_0, e1_1, e1_2, e1_3, e1_4, rfl, hF1⟩ := hI.have 1 _ 19 (.elem (keyNum la)) rfl rfl rfl rfl
      obtain ⟨v2, hv2, hs2⟩ := hI.have 2 _ 20 (.val (.agg (numsA .u8 lb))) rfl rfl rfl rfl
      obtain rfl := hs2
      obtain ⟨v3, hv3, e3_0, e3_1, e3_2, e3_3, e3_4, rfl, hF3⟩ := hI.have 3 _ 21 (.elem (keyNum lb)) rfl rfl rfl rfl
      obtain ⟨v4, hv4, hs4⟩ := hI.have 4 _ 22 (.val (.agg (numsA .u8 lc))) rfl rfl rfl rfl
      obtain rfl := hs4
      obtain ⟨v5, hv5, e5_0, e5_1, e5_2, e5_3, e5_4, rfl, hF5⟩ := hI.have 5 _ 23 (.elem (keyNum lc)) rfl rfl rfl rfl
      obtain ⟨v6, hv6, e6_0, e6_1, e6_2, e6_3, e6_4, rfl, hF6⟩ := hI.have 6 _ 24 (.elem ((keyNum lb) * (keyNum lc))) rfl rfl rfl rfl
      obtain ⟨v7, hv7, hs7⟩ := hI.have 7 _ 25 (.val (.agg (numsA .u8 lc))) rfl rfl rfl rfl
      obtain rfl := hs7
      obtain ⟨v8, hv8, e8_0, e8_1, e8_2, e8_3, e8_4, rfl, hF8⟩ := hI.have 8 _ 26 (.elem (keyNum lc)) rfl rfl rfl rfl
      obtain ⟨v9, hv9, hs9⟩ := hI.have 9 _ 27 (.val (.agg (numsA .u8 la))) rfl rfl rfl rfl
      obtain rfl := hs9
      obtain ⟨v10, hv10, e10_0, e10_1, e10_2, e10_3, e10_4, rfl, hF10⟩ := hI.have 10 _ 28 (.elem (keyNum la)) rfl rfl rfl rfl
      obtain ⟨v11, hv11, e11_0, e11_1, e11_2, e11_3, e11_4, rfl, hF11⟩ := hI.have 11 _ 29 (.elem ((keyNum lc) - (keyNum la))) rfl rfl rfl rfl
      obtain ⟨v12, hv12, b12, rfl, hn12, hb12⟩ := hI.have 12 _ 7 (.new 28 #[.int .u64 0, .int .u64 0, .int .u64 0, .int .u64 0, .int .u64 0]) rfl rfl rfl rfl
      obtain ⟨v13, hv13, b13, rfl, hn13, hb13⟩ := hI.have 13 _ 8 (.new 28 #[.int .u64 0, .int .u64 0, .int .u64 0, .int .u64 0, .int .u64 0]) rfl rfl rfl rfl
      obtain ⟨v14, hv14, b14, rfl, hn14, hb14⟩ := hI.have 14 _ 9 (.new 28 #[.int .u64 0, .int .u64 0, .int .u64 0, .int .u64 0, .int .u64 0]) rfl rfl rfl rfl
      have hne12_13 : b12 ≠ b13 := fun e => hI.apart 12 13 _ _ 7 8 (by omega) rfl rfl rfl rfl rfl rfl rfl rfl (by rw [hv12, hv13, e])
      have hne12_14 : b12 ≠ b14 := fun e => hI.apart 12 14 _ _ 7 9 (by omega) rfl rfl rfl rfl rfl rfl rfl rfl (by rw [hv12, hv14, e])
      have hne13_14 : b13 ≠ b14 := fun e => hI.apart 13 14 _ _ 8 9 (by omega) rfl rfl rfl rfl rfl rfl rfl rfl (by rw [hv13, hv14, e])
      have hupd := hI.upd
      have ha := hI.act [(18, .agg (numsA .u8 la)), (19, .agg #[.int .u64 e1_0, .int .u64 e1_1, .int .u64 e1_2, .int .u64 e1_3, .int .u64 e1_4]), (20, .agg (numsA .u8 lb)), (21, .agg #[.int .u64 e3_0, .int .u64 e3_1, .int .u64 e3_2, .int .u64 e3_3, .int .u64 e3_4]), (22, .agg (numsA .u8 lc)), (23, .agg #[.int .u64 e5_0, .int .u64 e5_1, .int .u64 e5_2, .int .u64 e5_3, .int .u64 e5_4]), (24, .agg #[.int .u64 e6_0, .int .u64 e6_1, .int .u64 e6_2, .int .u64 e6_3, .int .u64 e6_4]), (25, .agg (numsA .u8 lc)), (26, .agg #[.int .u64 e8_0, .int .u64 e8_1, .int .u64 e8_2, .int .u64 e8_3, .int .u64 e8_4]), (27, .agg (numsA .u8 la)), (28, .agg #[.int .u64 e10_0, .int .u64 e10_1, .int .u64 e10_2, .int .u64 e10_3, .int .u64 e10_4]), (29, .agg #[.int .u64 e11_0, .int .u64 e11_1, .int .u64 e11_2, .int .u64 e11_3, .int .u64 e11_4]), (7, .pointer (some ⟨b12, 0, none⟩)), (8, .pointer (some ⟨b13, 0, none⟩)), (9, .pointer (some ⟨b14, 0, none⟩))] (by simp [hv0, hv1, hv2, hv3, hv4, hv5, hv6, hv7, hv8, hv9, hv10, hv11, hv12, hv13, hv14]) (by kernel_rfl)
      clear hI hv0 hv1 hv2 hv3 hv4 hv5 hv6 hv7 hv8 hv9 hv10 hv11 hv12 hv13 hv14
      subst ha
      simp only [List.foldl_cons, List.foldl_nil, List.setIfInBounds_toArray, List.set_cons_zero, List.set_cons_succ]
      have hf0 : left #[true, true, true, true, true, true, true, true, true, true, true, true, true, true, true, false, false, false] 18 = 3 := by kernel_rfl
      have hf1 : left #[true, true, true, true, true, true, true, true, true, true, true, true, true, true, true, false, false, false] 18 ≤ fuel := hf
      obtain ⟨fu, rfl⟩ : ∃ fu, fuel = fu + 3 := ⟨fuel - 3, by omega⟩
      clear hf hf0 hf1
      refine wpAny_ready (rs := [15]) (by kernel_rfl) (by simp) (AllReady.cons rfl (fun K hK => ?_) AllReady.nil)
      refine step_storeBlk2 rfl 28 (.tmp 7) (.tmp 19) rfl b12 0 5 rfl #[.int .u64 e1_0, .int .u64 e1_1, .int .u64 e1_2, .int .u64 e1_3, .int .u64 e1_4] rfl 28 #[.int .u64 0, .int .u64 0, .int .u64 0, .int .u64 0, .int .u64 0] hb12 info28 rfl (by simp) (one5 _ _ _ _ _) ?_
      intro ws0 hs0 hus0 _
      rw [splice_all _ _ 5 rfl rfl] at hs0
      refine hK _ _ ?_
      clear hK K
      dsimp only [Act.put]
      have hb13_0 := hus0.blk hb13 (fun e => hne12_13 e.symm)
      have hb14_0 := hus0.blk hb14 (fun e => hne12_14 e.symm)
      have hw0 := hupd.step hus0 (fun i hi h => by have := hn12; simp only [World.size_drew] at *; omega)
      refine wpAny_ready (rs := [16]) (by kernel_rfl) (by simp) (AllReady.cons rfl (fun K hK => ?_) AllReady.nil)
      refine step_storeBlk2 rfl 28 (.tmp 8) (.tmp 24) rfl b13 0 5 rfl #[.int .u64 e6_0, .int .u64 e6_1, .int .u64 e6_2, .int .u64 e6_3, .int .u64 e6_4] rfl 28 #[.int .u64 0, .int .u64 0, .int .u64 0, .int .u64 0, .int .u64 0] hb13_0 info28 rfl (by simp) (one5 _ _ _ _ _) ?_
      intro ws1 hs1 hus1 _
      rw [splice_all _ _ 5 rfl rfl] at hs1
      refine hK _ _ ?_
      clear hK K
      dsimp only [Act.put]
      have hb12_1 := hus1.blk hs0 (fun e => hne12_13 e)
      have hb14_1 := hus1.blk hb14_0 (fun e => hne13_14 e.symm)
      have hw1 := hw0.step hus1 (fun i hi h => by have := hn13; simp only [World.size_drew] at *; omega)
      refine wpAny_ready (rs := [17]) (by kernel_rfl) (by simp) (AllReady.cons rfl (fun K hK => ?_) AllReady.nil)
      refine step_storeBlk2 rfl 28 (.tmp 9) (.tmp 29) rfl b14 0 5 rfl #[.int .u64 e11_0, .int .u64 e11_1, .int .u64 e11_2, .int .u64 e11_3, .int .u64 e11_4] rfl 28 #[.int .u64 0, .int .u64 0, .int .u64 0, .int .u64 0, .int .u64 0] hb14_1 info28 rfl (by simp) (one5 _ _ _ _ _) ?_
      intro ws2 hs2 hus2 _
      rw [splice_all _ _ 5 rfl rfl] at hs2
      refine hK _ _ ?_
      clear hK K
      dsimp only [Act.put]
      have hb12_2 := hus2.blk hb12_1 (fun e => hne12_14 e)
      have hb13_2 := hus2.blk hs1 (fun e => hne13_14 e)
      have hw2 := hw1.step hus2 (fun i hi h => by have := hn14; simp only [World.size_drew] at *; omega)
      refine wpAny_done (by kernel_rfl) ?_ _
      go_wp2_with fail
      go_meet
      exact ⟨b12, b13, b14, _, _, _, _, _, _, _, _, _, _, _, _, _, _, _, rfl, rfl, rfl, (Upd.refl (fun _ => False) w1).drew.trans hw2, hb12_2, hb13_2, hs2, hF1, hF6, hF11⟩
  case rest =>
    obtain ⟨bX, bY, bZ, x0, x1, x2, x3, x4, y0, y1, y2, y3, y4, z0, z1, z2, z3, z4, rfl, rfl, rfl, hu, hb7, hb8, hb9, hFx, hFy, hFz⟩ := hcut
    have Huc := Lib.hid (Hu1.out.trans hu)
    have HFx := Lib.hid hFx
    have HFy := Lib.hid hFy
    have HFz := Lib.hid hFz
    have HbX := Lib.hid hb7
    have HbY := Lib.hid hb8
    have HbZ := Lib.hid hb9
    clear hu hb7 hb8 hb9 hFx hFy hFz Hka Hkb Hkc Hu1 HA HB HC
    generalize keyNum la = na at *
    generalize keyNum lb * keyNum lc = nb at *
    generalize keyNum lc - na = nc at *
    clear Hla Hlb Hlc Hda Hdb Hdc
    go_wp2_with fail
    refine wp_region_slots #[true, true, true, true, true, true, true, false] ([.val (.agg #[.int .u64 x0, .int .u64 x1, .int .u64 x2, .int .u64 x3, .int .u64 x4]), .val (.agg #[.int .u64 y0, .int .u64 y1, .int .u64 y2, .int .u64 y3, .int .u64 y4]), .val (.agg #[.int .u64 z0, .int .u64 z1, .int .u64 z2, .int .u64 z3, .int .u64 z4]), .list [nb, nc], .elem (sumTo [nb, nc] [nb, nc].length), .elem (na * (sumTo [nb, nc] [nb, nc].length)), .new 28 #[.int .u64 0, .int .u64 0, .int .u64 0, .int .u64 0, .int .u64 0]] : List SP) (by kernel_rfl) (by kernel_rfl) (by kernel_rfl) ?_ ?_
    · intro i o listed an wn ho hls hst hun hdep hI K' hK'
      have hi : i < 7 := by
        rcases Nat.lt_or_ge i 7 with h | h
        · exact h
        · exfalso
          have hq : i = 7 ∨ 8 ≤ i := by omega
          rcases hq with rfl | h2
          · cases hst
          · have := idx_lt ho; simp at this; omega
      have hcase : i = 0 ∨ i = 1 ∨ i = 2 ∨ i = 3 ∨ i = 4 ∨ i = 5 ∨ i = 6 := by omega
      rcases hcase with rfl | rfl | rfl | rfl | rfl | rfl | rfl
      · obtain rfl := Option.some.inj ho
        exact hI.stepLoad (by kernel_rfl) hls rfl rfl rfl 28 7 rfl (by kernel_rfl) (bX) 5 rfl 28 (#[.int .u64 x0, .int .u64 x1, .int .u64 x2, .int .u64 x3, .int .u64 x4]) HbX.out _ Tryd.underlying28 rfl info28 rfl rfl rfl hK'
      · obtain rfl := Option.some.inj ho
        exact hI.stepLoad (by kernel_rfl) hls rfl rfl rfl 28 8 rfl (by kernel_rfl) (bY) 5 rfl 28 (#[.int .u64 y0, .int .u64 y1, .int .u64 y2, .int .u64 y3, .int .u64 y4]) HbY.out _ Tryd.underlying28 rfl info28 rfl rfl rfl hK'
      · obtain rfl := Option.some.inj ho
        exact hI.stepLoad (by kernel_rfl) hls rfl rfl rfl 28 9 rfl (by kernel_rfl) (bZ) 5 rfl 28 (#[.int .u64 z0, .int .u64 z1, .int .u64 z2, .int .u64 z3, .int .u64 z4]) HbZ.out _ Tryd.underlying28 rfl info28 rfl rfl rfl hK'
      · obtain rfl := Option.some.inj ho
        obtain ⟨vp, hvp, hsp⟩ := hI.have 1 _ 31 (.val (.agg #[.int .u64 y0, .int .u64 y1, .int .u64 y2, .int .u64 y3, .int .u64 y4])) rfl rfl rfl (hdep ⟨1, .data⟩ (by simp) rfl)
        obtain rfl := hsp
        obtain ⟨vq, hvq, hsq⟩ := hI.have 2 _ 32 (.val (.agg #[.int .u64 z0, .int .u64 z1, .int .u64 z2, .int .u64 z3, .int .u64 z4])) rfl rfl rfl (hdep ⟨2, .data⟩ (by simp) rfl)
        obtain rfl := hsq
        exact hI.stepList (by kernel_rfl) hls rfl rfl rfl _ _ [nb, nc] _ (run_list2 rfl (eval_of hvp) (eval_of hvq) wn) (ElsAt.mk2 wn y0 y1 y2 y3 y4 z0 z1 z2 z3 z4 nb nc HFy.out HFz.out) rfl rfl hK'
      · obtain rfl := Option.some.inj ho
        obtain ⟨vp, hvp, lp, hLp⟩ := hI.have 3 _ 33 (.list [nb, nc]) rfl rfl rfl (hdep ⟨3, .data⟩ (by simp) rfl)
        exact hI.stepCall (by kernel_rfl) hls rfl rfl rfl 10 #[.tmp 33] _ rfl #[vp] (by simp [eval_of hvp]) enterAdd (.elem (sumTo [nb, nc] [nb, nc].length)) rfl rfl ((add_any _ _ _ _ hLp).mono fun _ _ h => h.sp) hK'
      · obtain rfl := Option.some.inj ho
        obtain ⟨vp, hvp, hsp⟩ := hI.have 0 _ 30 (.val (.agg #[.int .u64 x0, .int .u64 x1, .int .u64 x2, .int .u64 x3, .int .u64 x4])) rfl rfl rfl (hdep ⟨0, .data⟩ (by simp) rfl)
        obtain rfl := hsp
        obtain ⟨vq, hvq, q0, q1, q2, q3, q4, rfl, hFq⟩ := hI.have 4 _ 34 (.elem (sumTo [nb, nc] [nb, nc].length)) rfl rfl rfl (hdep ⟨4, .data⟩ (by simp) rfl)
        exact hI.stepCall (by kernel_rfl) hls rfl rfl rfl 28 #[.tmp 30, .tmp 34] _ rfl #[.agg #[.int .u64 x0, .int .u64 x1, .int .u64 x2, .int .u64 x3, .int .u64 x4], .agg #[.int .u64 q0, .int .u64 q1, .int .u64 q2, .int .u64 q3, .int .u64 q4]] (by simp [eval_of hvp, eval_of hvq]) enterMul (.elem (na * (sumTo [nb, nc] [nb, nc].length))) rfl rfl ((mul_any x0 x1 x2 x3 x4 q0 q1 q2 q3 q4 na (sumTo [nb, nc] [nb, nc].length) _ HFx.out hFq).mono fun _ _ h => h.sp) hK'
      · obtain rfl := Option.some.inj ho
        exact hI.stepAlloc (by kernel_rfl) hls (Nat.le_refl _) (newsB_spec (by kernel_rfl)) rfl rfl rfl 28 rfl #[.int .u64 0, .int .u64 0, .int .u64 0, .int .u64 0, .int .u64 0] zeroE_run rfl hK'
    · intro fuel an wn hf hI
      obtain ⟨vp0, hvp0, hsp0⟩ := hI.have 0 _ 30 (.val (.agg #[.int .u64 x0, .int .u64 x1, .int .u64 x2, .int .u64 x3, .int .u64 x4])) rfl rfl rfl rfl
      obtain rfl := hsp0
      obtain ⟨vp1, hvp1, hsp1⟩ := hI.have 1 _ 31 (.val (.agg #[.int .u64 y0, .int .u64 y1, .int .u64 y2, .int .u64 y3, .int .u64 y4])) rfl rfl rfl rfl
      obtain rfl := hsp1
      obtain ⟨vp2, hvp2, hsp2⟩ := hI.have 2 _ 32 (.val (.agg #[.int .u64 z0, .int .u64 z1, .int .u64 z2, .int .u64 z3, .int .u64 z4])) rfl rfl rfl rfl
      obtain rfl := hsp2
      obtain ⟨vp3, hvp3, -⟩ := hI.have 3 _ 33 (.list [nb, nc]) rfl rfl rfl rfl
      obtain ⟨vp4, hvp4, ep4_0, ep4_1, ep4_2, ep4_3, ep4_4, rfl, hFp4⟩ := hI.have 4 _ 34 (.elem (sumTo [nb, nc] [nb, nc].length)) rfl rfl rfl rfl
      obtain ⟨vp5, hvp5, ep5_0, ep5_1, ep5_2, ep5_3, ep5_4, rfl, hFp5⟩ := hI.have 5 _ 35 (.elem (na * (sumTo [nb, nc] [nb, nc].length))) rfl rfl rfl rfl
      obtain ⟨vp6, hvp6, bp6, rfl, hnp6, hbp6⟩ := hI.have 6 _ 10 (.new 28 #[.int .u64 0, .int .u64 0, .int .u64 0, .int .u64 0, .int .u64 0]) rfl rfl rfl rfl
      have hupd := hI.upd
      have ha := hI.act [(30, .agg #[.int .u64 x0, .int .u64 x1, .int .u64 x2, .int .u64 x3, .int .u64 x4]), (31, .agg #[.int .u64 y0, .int .u64 y1, .int .u64 y2, .int .u64 y3, .int .u64 y4]), (32, .agg #[.int .u64 z0, .int .u64 z1, .int .u64 z2, .int .u64 z3, .int .u64 z4]), (33, vp3), (34, .agg #[.int .u64 ep4_0, .int .u64 ep4_1, .int .u64 ep4_2, .int .u64 ep4_3, .int .u64 ep4_4]), (35, .agg #[.int .u64 ep5_0, .int .u64 ep5_1, .int .u64 ep5_2, .int .u64 ep5_3, .int .u64 ep5_4]), (10, .pointer (some ⟨bp6, 0, none⟩))] (by simp [hvp0, hvp1, hvp2, hvp3, hvp4, hvp5, hvp6]) (by kernel_rfl)
      clear hI hvp0 hvp1 hvp2 hvp3 hvp4 hvp5 hvp6
      subst ha
      simp only [List.foldl_cons, List.foldl_nil, List.setIfInBounds_toArray, List.set_cons_zero, List.set_cons_succ]
      have hf0 : left #[true, true, true, true, true, true, true, false] 8 = 1 := by kernel_rfl
      have hf1 : left #[true, true, true, true, true, true, true, false] 8 ≤ fuel := hf
      obtain ⟨fu, rfl⟩ : ∃ fu, fuel = fu + 1 := ⟨fuel - 1, by omega⟩
      clear hf hf0 hf1
      refine wpAny_ready (rs := [7]) (by kernel_rfl) (by simp) (AllReady.cons rfl (fun K hK => ?_) AllReady.nil)
      refine step_storeBlk2 rfl 28 (.tmp 10) (.tmp 35) rfl bp6 0 5 rfl #[.int .u64 ep5_0, .int .u64 ep5_1, .int .u64 ep5_2, .int .u64 ep5_3, .int .u64 ep5_4] rfl 28 #[.int .u64 0, .int .u64 0, .int .u64 0, .int .u64 0, .int .u64 0] hbp6 info28 rfl (by simp) (one5 _ _ _ _ _) ?_
      intro wsp0 hsp0 husp0 _
      rw [splice_all _ _ 5 rfl rfl] at hsp0
      refine hK _ _ ?_
      clear hK K
      dsimp only [Act.put]
      have hwp0 := hupd.step husp0 (fun i hi h => by have := hnp6; simp only [World.size_drew] at *; omega)
      refine wpAny_done (by kernel_rfl) ?_ _
      have HL := Lib.hid hFp5
      have HbL := Lib.hid hsp0
      have Hu4 := Lib.hid (Huc.out.drew.trans hwp0)
      have HbX4 := Lib.hid (hwp0.blk (show Blk _ _ _ _ from HbX.out) (fun h => h))
      have HbY4 := Lib.hid (hwp0.blk (show Blk _ _ _ _ from HbY.out) (fun h => h))
      have HbZ4 := Lib.hid (hwp0.blk (show Blk _ _ _ _ from HbZ.out) (fun h => h))
      clear hFp5 hFp4 hsp0 hwp0 hupd hbp6 husp0 hnp6 HbX HbY HbZ Huc
      generalize bp6 = bL at *
      generalize ep5_0 = l0 at *
      generalize ep5_1 = l1 at *
      generalize ep5_2 = l2 at *
      generalize ep5_3 = l3 at *
      generalize ep5_4 = l4 at *
      go_wp2_with fail
      refine wp_region_slots #[true, true, true, true, true, true, true, true, true, false] ([.val (.agg #[.int .u64 x0, .int .u64 x1, .int .u64 x2, .int .u64 x3, .int .u64 x4]), .val (.agg #[.int .u64 y0, .int .u64 y1, .int .u64 y2, .int .u64 y3, .int .u64 y4]), .elem (na * nb), .val (.agg #[.int .u64 x0, .int .u64 x1, .int .u64 x2, .int .u64 x3, .int .u64 x4]), .val (.agg #[.int .u64 z0, .int .u64 z1, .int .u64 z2, .int .u64 z3, .int .u64 z4]), .elem (na * nc), .list [na * nb, na * nc], .elem (sumTo [na * nb, na * nc] [na * nb, na * nc].length), .new 28 #[.int .u64 0, .int .u64 0, .int .u64 0, .int .u64 0, .int .u64 0]] : List SP) (by kernel_rfl) (by kernel_rfl) (by kernel_rfl) ?_ ?_
      · intro i o listed an wn ho hls hst hun hdep hI K' hK'
        have hi : i < 9 := by
          rcases Nat.lt_or_ge i 9 with h | h
          · exact h
          · exfalso
            have hq : i = 9 ∨ 10 ≤ i := by omega
            rcases hq with rfl | h2
            · cases hst
            · have := idx_lt ho; simp at this; omega
        have hcase : i = 0 ∨ i = 1 ∨ i = 2 ∨ i = 3 ∨ i = 4 ∨ i = 5 ∨ i = 6 ∨ i = 7 ∨ i = 8 := by omega
        rcases hcase with rfl | rfl | rfl | rfl | rfl | rfl | rfl | rfl | rfl
        · obtain rfl := Option.some.inj ho
          exact hI.stepLoad (by kernel_rfl) hls rfl rfl rfl 28 7 rfl (by kernel_rfl) (bX) 5 rfl 28 (#[.int .u64 x0, .int .u64 x1, .int .u64 x2, .int .u64 x3, .int .u64 x4]) HbX4.out _ Tryd.underlying28 rfl info28 rfl rfl rfl hK'
        · obtain rfl := Option.some.inj ho
          exact hI.stepLoad (by kernel_rfl) hls rfl rfl rfl 28 8 rfl (by kernel_rfl) (bY) 5 rfl 28 (#[.int .u64 y0, .int .u64 y1, .int .u64 y2, .int .u64 y3, .int .u64 y4]) HbY4.out _ Tryd.underlying28 rfl info28 rfl rfl rfl hK'
        · obtain rfl := Option.some.inj ho
          obtain ⟨vp, hvp, hsp⟩ := hI.have 0 _ 36 (.val (.agg #[.int .u64 x0, .int .u64 x1, .int .u64 x2, .int .u64 x3, .int .u64 x4])) rfl rfl rfl (hdep ⟨0, .data⟩ (by simp) rfl)
          obtain rfl := hsp
          obtain ⟨vq, hvq, hsq⟩ := hI.have 1 _ 37 (.val (.agg #[.int .u64 y0, .int .u64 y1, .int .u64 y2, .int .u64 y3, .int .u64 y4])) rfl rfl rfl (hdep ⟨1, .data⟩ (by simp) rfl)
          obtain rfl := hsq
          exact hI.stepCall (by kernel_rfl) hls rfl rfl rfl 28 #[.tmp 36, .tmp 37] _ rfl #[.agg #[.int .u64 x0, .int .u64 x1, .int .u64 x2, .int .u64 x3, .int .u64 x4], .agg #[.int .u64 y0, .int .u64 y1, .int .u64 y2, .int .u64 y3, .int .u64 y4]] (by simp [eval_of hvp, eval_of hvq]) enterMul (.elem (na * nb)) rfl rfl ((mul_any x0 x1 x2 x3 x4 y0 y1 y2 y3 y4 na nb _ HFx.out HFy.out).mono fun _ _ h => h.sp) hK'
        · obtain rfl := Option.some.inj ho
          exact hI.stepLoad (by kernel_rfl) hls rfl rfl rfl 28 7 rfl (by kernel_rfl) (bX) 5 rfl 28 (#[.int .u64 x0, .int .u64 x1, .int .u64 x2, .int .u64 x3, .int .u64 x4]) HbX4.out _ Tryd.underlying28 rfl info28 rfl rfl rfl hK'
        · obtain rfl := Option.some.inj ho
          exact hI.stepLoad (by kernel_rfl) hls rfl rfl rfl 28 9 rfl (by kernel_rfl) (bZ) 5 rfl 28 (#[.int .u64 z0, .int .u64 z1, .int .u64 z2, .int .u64 z3, .int .u64 z4]) HbZ4.out _ Tryd.underlying28 rfl info28 rfl rfl rfl hK'
        · obtain rfl := Option.some.inj ho
          obtain ⟨vp, hvp, hsp⟩ := hI.have 3 _ 39 (.val (.agg #[.int .u64 x0, .int .u64 x1, .int .u64 x2, .int .u64 x3, .int .u64 x4])) rfl rfl rfl (hdep ⟨3, .data⟩ (by simp) rfl)
          obtain rfl := hsp
          obtain ⟨vq, hvq, hsq⟩ := hI.have 4 _ 40 (.val (.agg #[.int .u64 z0, .int .u64 z1, .int .u64 z2, .int .u64 z3, .int .u64 z4])) rfl rfl rfl (hdep ⟨4, .data⟩ (by simp) rfl)
          obtain rfl := hsq
          exact hI.stepCall (by kernel_rfl) hls rfl rfl rfl 28 #[.tmp 39, .tmp 40] _ rfl #[.agg #[.int .u64 x0, .int .u64 x1, .int .u64 x2, .int .u64 x3, .int .u64 x4], .agg #[.int .u64 z0, .int .u64 z1, .int .u64 z2, .int .u64 z3, .int .u64 z4]] (by simp [eval_of hvp, eval_of hvq]) enterMul (.elem (na * nc)) rfl rfl ((mul_any x0 x1 x2 x3 x4 z0 z1 z2 z3 z4 na nc _ HFx.out HFz.out).mono fun _ _ h => h.sp) hK'
        · obtain rfl := Option.some.inj ho
          obtain ⟨vp, hvp, p0, p1, p2, p3, p4, rfl, hFp⟩ := hI.have 2 _ 38 (.elem (na * nb)) rfl rfl rfl (hdep ⟨2, .data⟩ (by simp) rfl)
          obtain ⟨vq, hvq, q0, q1, q2, q3, q4, rfl, hFq⟩ := hI.have 5 _ 41 (.elem (na * nc)) rfl rfl rfl (hdep ⟨5, .data⟩ (by simp) rfl)
          exact hI.stepList (by kernel_rfl) hls rfl rfl rfl _ _ [na * nb, na * nc] _ (run_list2 rfl (eval_of hvp) (eval_of hvq) wn) (ElsAt.mk2 wn p0 p1 p2 p3 p4 q0 q1 q2 q3 q4 (na * nb) (na * nc) hFp hFq) rfl rfl hK'
        · obtain rfl := Option.some.inj ho
          obtain ⟨vp, hvp, lp, hLp⟩ := hI.have 6 _ 42 (.list [na * nb, na * nc]) rfl rfl rfl (hdep ⟨6, .data⟩ (by simp) rfl)
          exact hI.stepCall (by kernel_rfl) hls rfl rfl rfl 10 #[.tmp 42] _ rfl #[vp] (by simp [eval_of hvp]) enterAdd (.elem (sumTo [na * nb, na * nc] [na * nb, na * nc].length)) rfl rfl ((add_any _ _ _ _ hLp).mono fun _ _ h => h.sp) hK'
        · obtain rfl := Option.some.inj ho
          exact hI.stepAlloc (by kernel_rfl) hls (Nat.le_refl _) (newsB_spec (by kernel_rfl)) rfl rfl rfl 28 rfl #[.int .u64 0, .int .u64 0, .int .u64 0, .int .u64 0, .int .u64 0] zeroE_run rfl hK'
      · intro fuel an wn hf hI
        obtain ⟨vq0, hvq0, hsq0⟩ := hI.have 0 _ 36 (.val (.agg #[.int .u64 x0, .int .u64 x1, .int .u64 x2, .int .u64 x3, .int .u64 x4])) rfl rfl rfl rfl
        obtain rfl := hsq0
        obtain ⟨vq1, hvq1, hsq1⟩ := hI.have 1 _ 37 (.val (.agg #[.int .u64 y0, .int .u64 y1, .int .u64 y2, .int .u64 y3, .int .u64 y4])) rfl rfl rfl rfl
        obtain rfl := hsq1
        obtain ⟨vq2, hvq2, eq2_0, eq2_1, eq2_2, eq2_3, eq2_4, rfl, hFq2⟩ := hI.have 2 _ 38 (.elem (na * nb)) rfl rfl rfl rfl
        obtain ⟨vq3, hvq3, hsq3⟩ := hI.have 3 _ 39 (.val (.agg #[.int .u64 x0, .int .u64 x1, .int .u64 x2, .int .u64 x3, .int .u64 x4])) rfl rfl rfl rfl
        obtain rfl := hsq3
        obtain ⟨vq4, hvq4, hsq4⟩ := hI.have 4 _ 40 (.val (.agg #[.int .u64 z0, .int .u64 z1, .int .u64 z2, .int .u64 z3, .int .u64 z4])) rfl rfl rfl rfl
        obtain rfl := hsq4
        obtain ⟨vq5, hvq5, eq5_0, eq5_1, eq5_2, eq5_3, eq5_4, rfl, hFq5⟩ := hI.have 5 _ 41 (.elem (na * nc)) rfl rfl rfl rfl
        obtain ⟨vq6, hvq6, -⟩ := hI.have 6 _ 42 (.list [na * nb, na * nc]) rfl rfl rfl rfl
        obtain ⟨vq7, hvq7, eq7_0, eq7_1, eq7_2, eq7_3, eq7_4, rfl, hFq7⟩ := hI.have 7 _ 43 (.elem (sumTo [na * nb, na * nc] [na * nb, na * nc].length)) rfl rfl rfl rfl
        obtain ⟨vq8, hvq8, bq8, rfl, hnq8, hbq8⟩ := hI.have 8 _ 11 (.new 28 #[.int .u64 0, .int .u64 0, .int .u64 0, .int .u64 0, .int .u64 0]) rfl rfl rfl rfl
        have hupd := hI.upd
        have ha := hI.act [(36, .agg #[.int .u64 x0, .int .u64 x1, .int .u64 x2, .int .u64 x3, .int .u64 x4]), (37, .agg #[.int .u64 y0, .int .u64 y1, .int .u64 y2, .int .u64 y3, .int .u64 y4]), (38, .agg #[.int .u64 eq2_0, .int .u64 eq2_1, .int .u64 eq2_2, .int .u64 eq2_3, .int .u64 eq2_4]), (39, .agg #[.int .u64 x0, .int .u64 x1, .int .u64 x2, .int .u64 x3, .int .u64 x4]), (40, .agg #[.int .u64 z0, .int .u64 z1, .int .u64 z2, .int .u64 z3, .int .u64 z4]), (41, .agg #[.int .u64 eq5_0, .int .u64 eq5_1, .int .u64 eq5_2, .int .u64 eq5_3, .int .u64 eq5_4]), (42, vq6), (43, .agg #[.int .u64 eq7_0, .int .u64 eq7_1, .int .u64 eq7_2, .int .u64 eq7_3, .int .u64 eq7_4]), (11, .pointer (some ⟨bq8, 0, none⟩))] (by simp [hvq0, hvq1, hvq2, hvq3, hvq4, hvq5, hvq6, hvq7, hvq8]) (by kernel_rfl)
        clear hI hvq0 hvq1 hvq2 hvq3 hvq4 hvq5 hvq6 hvq7 hvq8
        subst ha
        simp only [List.foldl_cons, List.foldl_nil, List.setIfInBounds_toArray, List.set_cons_zero, List.set_cons_succ]
        have hf0 : left #[true, true, true, true, true, true, true, true, true, false] 10 = 1 := by kernel_rfl
        have hf1 : left #[true, true, true, true, true, true, true, true, true, false] 10 ≤ fuel := hf
        obtain ⟨fu, rfl⟩ : ∃ fu, fuel = fu + 1 := ⟨fuel - 1, by omega⟩
        clear hf hf0 hf1
        refine wpAny_ready (rs := [9]) (by kernel_rfl) (by simp) (AllReady.cons rfl (fun K hK => ?_) AllReady.nil)
        refine step_storeBlk2 rfl 28 (.tmp 11) (.tmp 43) rfl bq8 0 5 rfl #[.int .u64 eq7_0, .int .u64 eq7_1, .int .u64 eq7_2, .int .u64 eq7_3, .int .u64 eq7_4] rfl 28 #[.int .u64 0, .int .u64 0, .int .u64 0, .int .u64 0, .int .u64 0] hbq8 info28 rfl (by simp) (one5 _ _ _ _ _) ?_
        intro wsq0 hsq0 husq0 _
        rw [splice_all _ _ 5 rfl rfl] at hsq0
        refine hK _ _ ?_
        clear hK K
        dsimp only [Act.put]
        have hwq0 := hupd.step husq0 (fun i hi h => by have := hnq8; simp only [World.size_drew] at *; omega)
        refine wpAny_done (by kernel_rfl) ?_ _
        have HR := Lib.hid hFq7
        have HbR := Lib.hid hsq0
        have Hu5 := Lib.hid (Hu4.out.drew.trans hwq0)
        have HbX5 := Lib.hid (hwq0.blk (show Blk _ _ _ _ from HbX4.out) (fun h => h))
        have HbY5 := Lib.hid (hwq0.blk (show Blk _ _ _ _ from HbY4.out) (fun h => h))
        have HbZ5 := Lib.hid (hwq0.blk (show Blk _ _ _ _ from HbZ4.out) (fun h => h))
        have HbL5 := Lib.hid (hwq0.blk (show Blk _ _ _ _ from HbL.out) (fun h => h))
        clear hFq7 hFq5 hFq2 hsq0 hwq0 hupd hbq8 husq0 hnq8 HbX4 HbY4 HbZ4 HbL Hu4
        generalize bq8 = bR at *
        generalize eq7_0 = r0 at *
        generalize eq7_1 = r1 at *
        generalize eq7_2 = r2 at *
        generalize eq7_3 = r3 at *
        generalize eq7_4 = r4 at *
        obtain ⟨cx0, cx1, cx2, cx3, cx4⟩ := HbX5.out.cells5r
        obtain ⟨cy0, cy1, cy2, cy3, cy4⟩ := HbY5.out.cells5r
        go_wp2_with fail
        refine (swapT_any x0 x1 x2 x3 x4 y0 y1 y2 y3 y4 _).mono ?_
        rintro e w6 ⟨rfl, hu⟩
        have HbX6 := Lib.hid (hu.blk HbX5.out (fun h => h))
        have HbY6 := Lib.hid (hu.blk HbY5.out (fun h => h))
        have HbZ6 := Lib.hid (hu.blk HbZ5.out (fun h => h))
        have HbL6 := Lib.hid (hu.blk HbL5.out (fun h => h))
        have HbR6 := Lib.hid (hu.blk HbR.out (fun h => h))
        have Hu6 := Lib.hid (Hu5.out.trans hu)
        clear hu cx0 cx1 cx2 cx3 cx4 cy0 cy1 cy2 cy3 cy4 HbX5 HbY5 HbZ5 HbL5 HbR Hu5
        obtain ⟨cx0, cx1, cx2, cx3, cx4⟩ := HbX6.out.cells5r
        obtain ⟨cy0, cy1, cy2, cy3, cy4⟩ := HbY6.out.cells5r
        have hlX := HbX6.out.lt
        have hlY := HbY6.out.lt
        go_wp2_with fail
        refine (swapF_any x0 x1 x2 x3 x4 y0 y1 y2 y3 y4 _).mono ?_
        rintro e w7 ⟨rfl, hu⟩
        have HbX7 := Lib.hid (hu.blk ((HbX6.out.alloc _).alloc _) (fun h => h))
        have HbY7 := Lib.hid (hu.blk ((HbY6.out.alloc _).alloc _) (fun h => h))
        have HbZ7 := Lib.hid (hu.blk ((HbZ6.out.alloc _).alloc _) (fun h => h))
        have HbL7 := Lib.hid (hu.blk ((HbL6.out.alloc _).alloc _) (fun h => h))
        have HbR7 := Lib.hid (hu.blk ((HbR6.out.alloc _).alloc _) (fun h => h))
        have HbU := Lib.hid (hu.blk ((Blk.at1 w6 #[.int .u64 y0, .int .u64 y1, .int .u64 y2, .int .u64 y3, .int .u64 y4] 28).alloc _) (fun h => h))
        have HbV := Lib.hid (hu.blk (Blk.at2 w6 _ #[.int .u64 x0, .int .u64 x1, .int .u64 x2, .int .u64 x3, .int .u64 x4] 28) (fun h => h))
        have Hu7 := Lib.hid (((Hu6.out.alloc _).alloc _).trans hu)
        clear hu cx0 cx1 cx2 cx3 cx4 cy0 cy1 cy2 cy3 cy4 HbX6 HbY6 HbZ6 HbL6 HbR6 Hu6 hlX hlY
        go_wp2
        have HbX8 := Lib.hid ((HbX7.out.alloc (.cells #[.int .u64 x0, .int .u64 x1, .int .u64 x2, .int .u64 x3, .int .u64 x4] 28)).alloc (.cells #[.int .u64 y0, .int .u64 y1, .int .u64 y2, .int .u64 y3, .int .u64 y4] 28))
        have HbY8 := Lib.hid ((HbY7.out.alloc (.cells #[.int .u64 x0, .int .u64 x1, .int .u64 x2, .int .u64 x3, .int .u64 x4] 28)).alloc (.cells #[.int .u64 y0, .int .u64 y1, .int .u64 y2, .int .u64 y3, .int .u64 y4] 28))
        have HbZ8 := Lib.hid ((HbZ7.out.alloc (.cells #[.int .u64 x0, .int .u64 x1, .int .u64 x2, .int .u64 x3, .int .u64 x4] 28)).alloc (.cells #[.int .u64 y0, .int .u64 y1, .int .u64 y2, .int .u64 y3, .int .u64 y4] 28))
        have HbL8 := Lib.hid ((HbL7.out.alloc (.cells #[.int .u64 x0, .int .u64 x1, .int .u64 x2, .int .u64 x3, .int .u64 x4] 28)).alloc (.cells #[.int .u64 y0, .int .u64 y1, .int .u64 y2, .int .u64 y3, .int .u64 y4] 28))
        have HbR8 := Lib.hid ((HbR7.out.alloc (.cells #[.int .u64 x0, .int .u64 x1, .int .u64 x2, .int .u64 x3, .int .u64 x4] 28)).alloc (.cells #[.int .u64 y0, .int .u64 y1, .int .u64 y2, .int .u64 y3, .int .u64 y4] 28))
        have HbU8 := Lib.hid ((HbU.out.alloc (.cells #[.int .u64 x0, .int .u64 x1, .int .u64 x2, .int .u64 x3, .int .u64 x4] 28)).alloc (.cells #[.int .u64 y0, .int .u64 y1, .int .u64 y2, .int .u64 y3, .int .u64 y4] 28))
        have HbV8 := Lib.hid ((HbV.out.alloc (.cells #[.int .u64 x0, .int .u64 x1, .int .u64 x2, .int .u64 x3, .int .u64 x4] 28)).alloc (.cells #[.int .u64 y0, .int .u64 y1, .int .u64 y2, .int .u64 y3, .int .u64 y4] 28))
        have HbS8 := Lib.hid ((Blk.at1 w7 #[.int .u64 x0, .int .u64 x1, .int .u64 x2, .int .u64 x3, .int .u64 x4] 28).alloc (.cells #[.int .u64 y0, .int .u64 y1, .int .u64 y2, .int .u64 y3, .int .u64 y4] 28))
        have HbT8 := Lib.hid (Blk.at2 w7 (.cells #[.int .u64 x0, .int .u64 x1, .int .u64 x2, .int .u64 x3, .int .u64 x4] 28) #[.int .u64 y0, .int .u64 y1, .int .u64 y2, .int .u64 y3, .int .u64 y4] 28)
        have Hu8 := Lib.hid ((Hu7.out.alloc (.cells #[.int .u64 x0, .int .u64 x1, .int .u64 x2, .int .u64 x3, .int .u64 x4] 28)).alloc (.cells #[.int .u64 y0, .int .u64 y1, .int .u64 y2, .int .u64 y3, .int .u64 y4] 28))
        clear HbX7 HbY7 HbZ7 HbL7 HbR7 HbU HbV Hu7
        refine wp_region_slots #[true, true, true, true, true, true, true, true, true, true, true, true, true, true, true, true, true, true, true, true, true, true, true, true, true, true, true, true, true, true, true, true, true, true, true, true, true, true, true, true, true, true, true, true, true, true, true, true, true, true, true, true, true, true, true] ([.val (.agg #[.int .u64 l0, .int .u64 l1, .int .u64 l2, .int .u64 l3, .int .u64 l4]), .val (.agg #[.int .u64 r0, .int .u64 r1, .int .u64 r2, .int .u64 r3, .int .u64 r4]), .val (.bool true), .val (.bool true), .val (.agg #[.int .u64 x0, .int .u64 x1, .int .u64 x2, .int .u64 x3, .int .u64 x4]), .val (.agg #[.int .u64 x0, .int .u64 x1, .int .u64 x2, .int .u64 x3, .int .u64 x4]), .elem (-na), .list [na, -na], .elem (sumTo [na, -na] [na, -na].length), .elem (0), .val (.bool true), .val (.bool true), .val (.bool true), .val (.agg #[.int .u64 x0, .int .u64 x1, .int .u64 x2, .int .u64 x3, .int .u64 x4]), .val (.agg #[.int .u64 y0, .int .u64 y1, .int .u64 y2, .int .u64 y3, .int .u64 y4]), .list [na, nb], .elem (sumTo [na, nb] [na, nb].length), .val (.agg #[.int .u64 y0, .int .u64 y1, .int .u64 y2, .int .u64 y3, .int .u64 y4]), .elem ((sumTo [na, nb] [na, nb].length) - nb), .val (.agg #[.int .u64 x0, .int .u64 x1, .int .u64 x2, .int .u64 x3, .int .u64 x4]), .val (.bool true), .val (.bool true), .val (.bool true), .val (.agg #[.int .u64 y0, .int .u64 y1, .int .u64 y2, .int .u64 y3, .int .u64 y4]), .val (.agg #[.int .u64 y0, .int .u64 y1, .int .u64 y2, .int .u64 y3, .int .u64 y4]), .val (.bool true), .val (.bool true), .val (.bool true), .val (.agg #[.int .u64 x0, .int .u64 x1, .int .u64 x2, .int .u64 x3, .int .u64 x4]), .val (.agg #[.int .u64 x0, .int .u64 x1, .int .u64 x2, .int .u64 x3, .int .u64 x4]), .val (.bool true), .val (.bool true), .val (.bool true), .val (.agg #[.int .u64 x0, .int .u64 x1, .int .u64 x2, .int .u64 x3, .int .u64 x4]), .val (.agg #[.int .u64 x0, .int .u64 x1, .int .u64 x2, .int .u64 x3, .int .u64 x4]), .val (.bool true), .val (.bool true), .val (.bool true), .val (.agg #[.int .u64 y0, .int .u64 y1, .int .u64 y2, .int .u64 y3, .int .u64 y4]), .val (.agg #[.int .u64 y0, .int .u64 y1, .int .u64 y2, .int .u64 y3, .int .u64 y4]), .val (.bool true), .val (.bool true), .val (.bool true), .val (.agg #[.int .u64 y0, .int .u64 y1, .int .u64 y2, .int .u64 y3, .int .u64 y4]), .val (.agg (numsA .u8 (digits 256 32 (nb % pp)))), .val (.bool true), .val (.bool true), .val (.bool true), .val (.agg #[.int .u64 z0, .int .u64 z1, .int .u64 z2, .int .u64 z3, .int .u64 z4]), .val (.agg (numsA .u8 (digits 256 32 (nc % pp)))), .elem (keyNum (digits 256 32 (nc % pp))), .val (.agg #[.int .u64 z0, .int .u64 z1, .int .u64 z2, .int .u64 z3, .int .u64 z4]), .val (.bool true), .val (.bool true), .val (.bool true)] : List SP) (by kernel_rfl) (by kernel_rfl) (by kernel_rfl) ?_ ?_
        · intro i o listed an wn ho hls hst hun hdep hI K' hK'
          have hi : i < 55 := by
            have := idx_lt ho; simp at this; omega
          have hcase : i = 0 ∨ i = 1 ∨ i = 2 ∨ i = 3 ∨ i = 4 ∨ i = 5 ∨ i = 6 ∨ i = 7 ∨ i = 8 ∨ i = 9 ∨ i = 10 ∨ i = 11 ∨ i = 12 ∨ i = 13 ∨ i = 14 ∨ i = 15 ∨ i = 16 ∨ i = 17 ∨ i = 18 ∨ i = 19 ∨ i = 20 ∨ i = 21 ∨ i = 22 ∨ i = 23 ∨ i = 24 ∨ i = 25 ∨ i = 26 ∨ i = 27 ∨ i = 28 ∨ i = 29 ∨ i = 30 ∨ i = 31 ∨ i = 32 ∨ i = 33 ∨ i = 34 ∨ i = 35 ∨ i = 36 ∨ i = 37 ∨ i = 38 ∨ i = 39 ∨ i = 40 ∨ i = 41 ∨ i = 42 ∨ i = 43 ∨ i = 44 ∨ i = 45 ∨ i = 46 ∨ i = 47 ∨ i = 48 ∨ i = 49 ∨ i = 50 ∨ i = 51 ∨ i = 52 ∨ i = 53 ∨ i = 54 := by omega
          rcases hcase with rfl | rfl | rfl | rfl | rfl | rfl | rfl | rfl | rfl | rfl | rfl | rfl | rfl | rfl | rfl | rfl | rfl | rfl | rfl | rfl | rfl | rfl | rfl | rfl | rfl | rfl | rfl | rfl | rfl | rfl | rfl | rfl | rfl | rfl | rfl | rfl | rfl | rfl | rfl | rfl | rfl | rfl | rfl | rfl | rfl | rfl | rfl | rfl | rfl | rfl | rfl | rfl | rfl | rfl | rfl
          · obtain rfl := Option.some.inj ho
            exact hI.stepLoad (by kernel_rfl) hls rfl rfl rfl 28 10 rfl (by kernel_rfl) (bL) 5 rfl 28 (#[.int .u64 l0, .int .u64 l1, .int .u64 l2, .int .u64 l3, .int .u64 l4]) HbL8.out _ Tryd.underlying28 rfl info28 rfl rfl rfl hK'
          · obtain rfl := Option.some.inj ho
            exact hI.stepLoad (by kernel_rfl) hls rfl rfl rfl 28 11 rfl (by kernel_rfl) (bR) 5 rfl 28 (#[.int .u64 r0, .int .u64 r1, .int .u64 r2, .int .u64 r3, .int .u64 r4]) HbR8.out _ Tryd.underlying28 rfl info28 rfl rfl rfl hK'
          · obtain rfl := Option.some.inj ho
            obtain ⟨vp, hvp, hsp⟩ := hI.have 0 _ 56 (.val (.agg #[.int .u64 l0, .int .u64 l1, .int .u64 l2, .int .u64 l3, .int .u64 l4])) rfl rfl rfl (hdep ⟨0, .data⟩ (by simp) rfl)
            obtain rfl := hsp
            obtain ⟨vq, hvq, hsq⟩ := hI.have 1 _ 57 (.val (.agg #[.int .u64 r0, .int .u64 r1, .int .u64 r2, .int .u64 r3, .int .u64 r4])) rfl rfl rfl (hdep ⟨1, .data⟩ (by simp) rfl)
            obtain rfl := hsq
            exact hI.stepCall (by kernel_rfl) hls rfl rfl rfl 18 #[.tmp 56, .tmp 57] _ rfl #[.agg #[.int .u64 l0, .int .u64 l1, .int .u64 l2, .int .u64 l3, .int .u64 l4], .agg #[.int .u64 r0, .int .u64 r1, .int .u64 r2, .int .u64 r3, .int .u64 r4]] (by simp [eval_of hvp, eval_of hvq]) enterEqual (.val (.bool true)) rfl rfl ((equal_any l0 l1 l2 l3 l4 r0 r1 r2 r3 r4 (na * sumTo [nb, nc] [nb, nc].length) (sumTo [na * nb, na * nc] [na * nb, na * nc].length) _ HL.out HR.out).mono fun _ _ h => ⟨_, h.1.trans (congrArg (fun b => Ending.returned (.bool b)) (dec_of (rules_left na nb nc))), rfl, h.2⟩) hK'
          · obtain rfl := Option.some.inj ho
            obtain ⟨vp, hvp, hsp⟩ := hI.have 2 _ 58 (.val (.bool true)) rfl rfl rfl (hdep ⟨2, .data⟩ (by simp) rfl)
            obtain rfl := hsp
            exact hI.stepPure (by kernel_rfl) hls rfl rfl rfl (.bool true) (by simp [execOp, eval_of hvp]) rfl rfl hK'
          · obtain rfl := Option.some.inj ho
            obtain ⟨vg, hvg, hsg⟩ := hI.have 3 _ 59 (.val (.bool true)) rfl rfl rfl (hdep ⟨3, .guard⟩ (by simp) rfl)
            obtain rfl := hsg
            exact hI.stepLoad (by kernel_rfl) hls rfl (wanted_of rfl rfl rfl hvg) rfl 28 7 rfl (by kernel_rfl) (bX) 5 rfl 28 (#[.int .u64 x0, .int .u64 x1, .int .u64 x2, .int .u64 x3, .int .u64 x4]) HbX8.out _ Tryd.underlying28 rfl info28 rfl rfl rfl hK'
          · obtain rfl := Option.some.inj ho
            obtain ⟨vg, hvg, hsg⟩ := hI.have 3 _ 59 (.val (.bool true)) rfl rfl rfl (hdep ⟨3, .guard⟩ (by simp) rfl)
            obtain rfl := hsg
            exact hI.stepLoad (by kernel_rfl) hls rfl (wanted_of rfl rfl rfl hvg) rfl 28 7 rfl (by kernel_rfl) (bX) 5 rfl 28 (#[.int .u64 x0, .int .u64 x1, .int .u64 x2, .int .u64 x3, .int .u64 x4]) HbX8.out _ Tryd.underlying28 rfl info28 rfl rfl rfl hK'
          · obtain rfl := Option.some.inj ho
            obtain ⟨vg, hvg, hsg⟩ := hI.have 3 _ 59 (.val (.bool true)) rfl rfl rfl (hdep ⟨3, .guard⟩ (by simp) rfl)
            obtain rfl := hsg
            obtain ⟨vp, hvp, hsp⟩ := hI.have 5 _ 61 (.val (.agg #[.int .u64 x0, .int .u64 x1, .int .u64 x2, .int .u64 x3, .int .u64 x4])) rfl rfl rfl (hdep ⟨5, .data⟩ (by simp) rfl)
            obtain rfl := hsp
            exact hI.stepCall (by kernel_rfl) hls rfl (wanted_of rfl rfl rfl hvg) rfl 16 #[.tmp 61] _ rfl #[.agg #[.int .u64 x0, .int .u64 x1, .int .u64 x2, .int .u64 x3, .int .u64 x4]] (by simp [eval_of hvp]) enterNeg (.elem (-na)) rfl rfl ((neg_any x0 x1 x2 x3 x4 na _ (HT.out.upd (Hu8.out.drew.trans hI.upd)) HFx.out).mono fun _ _ h => h.sp) hK'
          · obtain rfl := Option.some.inj ho
            obtain ⟨vg, hvg, hsg⟩ := hI.have 3 _ 59 (.val (.bool true)) rfl rfl rfl (hdep ⟨3, .guard⟩ (by simp) rfl)
            obtain rfl := hsg
            obtain ⟨vp, hvp, hsp⟩ := hI.have 4 _ 60 (.val (.agg #[.int .u64 x0, .int .u64 x1, .int .u64 x2, .int .u64 x3, .int .u64 x4])) rfl rfl rfl (hdep ⟨4, .data⟩ (by simp) rfl)
            obtain rfl := hsp
            obtain ⟨vq, hvq, q0, q1, q2, q3, q4, rfl, hFq⟩ := hI.have 6 _ 62 (.elem (-na)) rfl rfl rfl (hdep ⟨6, .data⟩ (by simp) rfl)
            exact hI.stepList (by kernel_rfl) hls rfl (wanted_of rfl rfl rfl hvg) rfl _ _ [na, -na] _ (run_list2 rfl (eval_of hvp) (eval_of hvq) wn) (ElsAt.mk2 wn x0 x1 x2 x3 x4 q0 q1 q2 q3 q4 na (-na) HFx.out hFq) rfl rfl hK'
          · obtain rfl := Option.some.inj ho
            obtain ⟨vg, hvg, hsg⟩ := hI.have 3 _ 59 (.val (.bool true)) rfl rfl rfl (hdep ⟨3, .guard⟩ (by simp) rfl)
            obtain rfl := hsg
            obtain ⟨vp, hvp, lp, hLp⟩ := hI.have 7 _ 63 (.list [na, -na]) rfl rfl rfl (hdep ⟨7, .data⟩ (by simp) rfl)
            exact hI.stepCall (by kernel_rfl) hls rfl (wanted_of rfl rfl rfl hvg) rfl 10 #[.tmp 63] _ rfl #[vp] (by simp [eval_of hvp]) enterAdd (.elem (sumTo [na, -na] [na, -na].length)) rfl rfl ((add_any _ _ _ _ hLp).mono fun _ _ h => h.sp) hK'
          · obtain rfl := Option.some.inj ho
            obtain ⟨vg, hvg, hsg⟩ := hI.have 3 _ 59 (.val (.bool true)) rfl rfl rfl (hdep ⟨3, .guard⟩ (by simp) rfl)
            obtain rfl := hsg
            exact hI.stepCall (by kernel_rfl) hls rfl (wanted_of rfl rfl rfl hvg) rfl 19 #[.const (.int .u32 0)] _ rfl #[.int .u32 0] (by simp [Act.eval]) enterSmall (.elem (0)) rfl rfl ((small_any 0 _ (by omega) (by omega)).mono fun _ _ h => h.sp) hK'
          · obtain rfl := Option.some.inj ho
            obtain ⟨vg, hvg, hsg⟩ := hI.have 3 _ 59 (.val (.bool true)) rfl rfl rfl (hdep ⟨3, .guard⟩ (by simp) rfl)
            obtain rfl := hsg
            obtain ⟨vp, hvp, p0, p1, p2, p3, p4, rfl, hFp⟩ := hI.have 8 _ 64 (.elem (sumTo [na, -na] [na, -na].length)) rfl rfl rfl (hdep ⟨8, .data⟩ (by simp) rfl)
            obtain ⟨vq, hvq, q0, q1, q2, q3, q4, rfl, hFq⟩ := hI.have 9 _ 65 (.elem (0)) rfl rfl rfl (hdep ⟨9, .data⟩ (by simp) rfl)
            exact hI.stepCall (by kernel_rfl) hls rfl (wanted_of rfl rfl rfl hvg) rfl 18 #[.tmp 64, .tmp 65] _ rfl #[.agg #[.int .u64 p0, .int .u64 p1, .int .u64 p2, .int .u64 p3, .int .u64 p4], .agg #[.int .u64 q0, .int .u64 q1, .int .u64 q2, .int .u64 q3, .int .u64 q4]] (by simp [eval_of hvp, eval_of hvq]) enterEqual (.val (.bool true)) rfl rfl ((equal_any p0 p1 p2 p3 p4 q0 q1 q2 q3 q4 (sumTo [na, -na] [na, -na].length) 0 _ hFp hFq).mono fun _ _ h => ⟨_, h.1.trans (congrArg (fun b => Ending.returned (.bool b)) (dec_of (rules_neg na))), rfl, h.2⟩) hK'
          · obtain rfl := Option.some.inj ho
            obtain ⟨vp, hvp, hsp⟩ := hI.have 3 _ 59 (.val (.bool true)) rfl rfl rfl (hdep ⟨3, .data⟩ (by simp) rfl)
            obtain rfl := hsp
            obtain ⟨vq, hvq, hsq⟩ := hI.have 10 _ 66 (.val (.bool true)) rfl rfl rfl (hdep ⟨10, .data⟩ (by simp) rfl)
            obtain rfl := hsq
            exact hI.stepPure (by kernel_rfl) hls rfl rfl rfl (.bool true) (by simp [execOp, eval_of hvp, eval_of hvq, asBool]) rfl rfl hK'
          · obtain rfl := Option.some.inj ho
            obtain ⟨vp, hvp, hsp⟩ := hI.have 11 _ 67 (.val (.bool true)) rfl rfl rfl (hdep ⟨11, .data⟩ (by simp) rfl)
            obtain rfl := hsp
            exact hI.stepPure (by kernel_rfl) hls rfl rfl rfl (.bool true) (by simp [execOp, eval_of hvp]) rfl rfl hK'
          · obtain rfl := Option.some.inj ho
            obtain ⟨vg, hvg, hsg⟩ := hI.have 12 _ 68 (.val (.bool true)) rfl rfl rfl (hdep ⟨12, .guard⟩ (by simp) rfl)
            obtain rfl := hsg
            exact hI.stepLoad (by kernel_rfl) hls rfl (wanted_of rfl rfl rfl hvg) rfl 28 7 rfl (by kernel_rfl) (bX) 5 rfl 28 (#[.int .u64 x0, .int .u64 x1, .int .u64 x2, .int .u64 x3, .int .u64 x4]) HbX8.out _ Tryd.underlying28 rfl info28 rfl rfl rfl hK'
          · obtain rfl := Option.some.inj ho
            obtain ⟨vg, hvg, hsg⟩ := hI.have 12 _ 68 (.val (.bool true)) rfl rfl rfl (hdep ⟨12, .guard⟩ (by simp) rfl)
            obtain rfl := hsg
            exact hI.stepLoad (by kernel_rfl) hls rfl (wanted_of rfl rfl rfl hvg) rfl 28 8 rfl (by kernel_rfl) (bY) 5 rfl 28 (#[.int .u64 y0, .int .u64 y1, .int .u64 y2, .int .u64 y3, .int .u64 y4]) HbY8.out _ Tryd.underlying28 rfl info28 rfl rfl rfl hK'
          · obtain rfl := Option.some.inj ho
            obtain ⟨vg, hvg, hsg⟩ := hI.have 12 _ 68 (.val (.bool true)) rfl rfl rfl (hdep ⟨12, .guard⟩ (by simp) rfl)
            obtain rfl := hsg
            obtain ⟨vp, hvp, hsp⟩ := hI.have 13 _ 69 (.val (.agg #[.int .u64 x0, .int .u64 x1, .int .u64 x2, .int .u64 x3, .int .u64 x4])) rfl rfl rfl (hdep ⟨13, .data⟩ (by simp) rfl)
            obtain rfl := hsp
            obtain ⟨vq, hvq, hsq⟩ := hI.have 14 _ 70 (.val (.agg #[.int .u64 y0, .int .u64 y1, .int .u64 y2, .int .u64 y3, .int .u64 y4])) rfl rfl rfl (hdep ⟨14, .data⟩ (by simp) rfl)
            obtain rfl := hsq
            exact hI.stepList (by kernel_rfl) hls rfl (wanted_of rfl rfl rfl hvg) rfl _ _ [na, nb] _ (run_list2 rfl (eval_of hvp) (eval_of hvq) wn) (ElsAt.mk2 wn x0 x1 x2 x3 x4 y0 y1 y2 y3 y4 na nb HFx.out HFy.out) rfl rfl hK'
          · obtain rfl := Option.some.inj ho
            obtain ⟨vg, hvg, hsg⟩ := hI.have 12 _ 68 (.val (.bool true)) rfl rfl rfl (hdep ⟨12, .guard⟩ (by simp) rfl)
            obtain rfl := hsg
            obtain ⟨vp, hvp, lp, hLp⟩ := hI.have 15 _ 71 (.list [na, nb]) rfl rfl rfl (hdep ⟨15, .data⟩ (by simp) rfl)
            exact hI.stepCall (by kernel_rfl) hls rfl (wanted_of rfl rfl rfl hvg) rfl 10 #[.tmp 71] _ rfl #[vp] (by simp [eval_of hvp]) enterAdd (.elem (sumTo [na, nb] [na, nb].length)) rfl rfl ((add_any _ _ _ _ hLp).mono fun _ _ h => h.sp) hK'
          · obtain rfl := Option.some.inj ho
            obtain ⟨vg, hvg, hsg⟩ := hI.have 12 _ 68 (.val (.bool true)) rfl rfl rfl (hdep ⟨12, .guard⟩ (by simp) rfl)
            obtain rfl := hsg
            exact hI.stepLoad (by kernel_rfl) hls rfl (wanted_of rfl rfl rfl hvg) rfl 28 8 rfl (by kernel_rfl) (bY) 5 rfl 28 (#[.int .u64 y0, .int .u64 y1, .int .u64 y2, .int .u64 y3, .int .u64 y4]) HbY8.out _ Tryd.underlying28 rfl info28 rfl rfl rfl hK'
          · obtain rfl := Option.some.inj ho
            obtain ⟨vg, hvg, hsg⟩ := hI.have 12 _ 68 (.val (.bool true)) rfl rfl rfl (hdep ⟨12, .guard⟩ (by simp) rfl)
            obtain rfl := hsg
            obtain ⟨vp, hvp, p0, p1, p2, p3, p4, rfl, hFp⟩ := hI.have 16 _ 72 (.elem (sumTo [na, nb] [na, nb].length)) rfl rfl rfl (hdep ⟨16, .data⟩ (by simp) rfl)
            obtain ⟨vq, hvq, hsq⟩ := hI.have 17 _ 73 (.val (.agg #[.int .u64 y0, .int .u64 y1, .int .u64 y2, .int .u64 y3, .int .u64 y4])) rfl rfl rfl (hdep ⟨17, .data⟩ (by simp) rfl)
            obtain rfl := hsq
            exact hI.stepCall (by kernel_rfl) hls rfl (wanted_of rfl rfl rfl hvg) rfl 14 #[.tmp 72, .tmp 73] _ rfl #[.agg #[.int .u64 p0, .int .u64 p1, .int .u64 p2, .int .u64 p3, .int .u64 p4], .agg #[.int .u64 y0, .int .u64 y1, .int .u64 y2, .int .u64 y3, .int .u64 y4]] (by simp [eval_of hvp, eval_of hvq]) enterSub (.elem ((sumTo [na, nb] [na, nb].length) - nb)) rfl rfl ((sub_any p0 p1 p2 p3 p4 y0 y1 y2 y3 y4 (sumTo [na, nb] [na, nb].length) nb _ (HT.out.upd (Hu8.out.drew.trans hI.upd)) hFp HFy.out).mono fun _ _ h => h.sp) hK'
          · obtain rfl := Option.some.inj ho
            obtain ⟨vg, hvg, hsg⟩ := hI.have 12 _ 68 (.val (.bool true)) rfl rfl rfl (hdep ⟨12, .guard⟩ (by simp) rfl)
            obtain rfl := hsg
            exact hI.stepLoad (by kernel_rfl) hls rfl (wanted_of rfl rfl rfl hvg) rfl 28 7 rfl (by kernel_rfl) (bX) 5 rfl 28 (#[.int .u64 x0, .int .u64 x1, .int .u64 x2, .int .u64 x3, .int .u64 x4]) HbX8.out _ Tryd.underlying28 rfl info28 rfl rfl rfl hK'
          · obtain rfl := Option.some.inj ho
            obtain ⟨vg, hvg, hsg⟩ := hI.have 12 _ 68 (.val (.bool true)) rfl rfl rfl (hdep ⟨12, .guard⟩ (by simp) rfl)
            obtain rfl := hsg
            obtain ⟨vp, hvp, p0, p1, p2, p3, p4, rfl, hFp⟩ := hI.have 18 _ 74 (.elem ((sumTo [na, nb] [na, nb].length) - nb)) rfl rfl rfl (hdep ⟨18, .data⟩ (by simp) rfl)
            obtain ⟨vq, hvq, hsq⟩ := hI.have 19 _ 75 (.val (.agg #[.int .u64 x0, .int .u64 x1, .int .u64 x2, .int .u64 x3, .int .u64 x4])) rfl rfl rfl (hdep ⟨19, .data⟩ (by simp) rfl)
            obtain rfl := hsq
            exact hI.stepCall (by kernel_rfl) hls rfl (wanted_of rfl rfl rfl hvg) rfl 18 #[.tmp 74, .tmp 75] _ rfl #[.agg #[.int .u64 p0, .int .u64 p1, .int .u64 p2, .int .u64 p3, .int .u64 p4], .agg #[.int .u64 x0, .int .u64 x1, .int .u64 x2, .int .u64 x3, .int .u64 x4]] (by simp [eval_of hvp, eval_of hvq]) enterEqual (.val (.bool true)) rfl rfl ((equal_any p0 p1 p2 p3 p4 x0 x1 x2 x3 x4 ((sumTo [na, nb] [na, nb].length) - nb) na _ hFp HFx.out).mono fun _ _ h => ⟨_, h.1.trans (congrArg (fun b => Ending.returned (.bool b)) (dec_of (rules_back na nb))), rfl, h.2⟩) hK'
          · obtain rfl := Option.some.inj ho
            obtain ⟨vp, hvp, hsp⟩ := hI.have 12 _ 68 (.val (.bool true)) rfl rfl rfl (hdep ⟨12, .data⟩ (by simp) rfl)
            obtain rfl := hsp
            obtain ⟨vq, hvq, hsq⟩ := hI.have 20 _ 76 (.val (.bool true)) rfl rfl rfl (hdep ⟨20, .data⟩ (by simp) rfl)
            obtain rfl := hsq
            exact hI.stepPure (by kernel_rfl) hls rfl rfl rfl (.bool true) (by simp [execOp, eval_of hvp, eval_of hvq, asBool]) rfl rfl hK'
          · obtain rfl := Option.some.inj ho
            obtain ⟨vp, hvp, hsp⟩ := hI.have 21 _ 77 (.val (.bool true)) rfl rfl rfl (hdep ⟨21, .data⟩ (by simp) rfl)
            obtain rfl := hsp
            exact hI.stepPure (by kernel_rfl) hls rfl rfl rfl (.bool true) (by simp [execOp, eval_of hvp]) rfl rfl hK'
          · obtain rfl := Option.some.inj ho
            obtain ⟨vg, hvg, hsg⟩ := hI.have 22 _ 78 (.val (.bool true)) rfl rfl rfl (hdep ⟨22, .guard⟩ (by simp) rfl)
            obtain rfl := hsg
            exact hI.stepLoad (by kernel_rfl) hls rfl (wanted_of rfl rfl rfl hvg) rfl 28 12 rfl (by kernel_rfl) (w6.heap.size) 5 rfl 28 (#[.int .u64 y0, .int .u64 y1, .int .u64 y2, .int .u64 y3, .int .u64 y4]) HbU8.out _ Tryd.underlying28 rfl info28 rfl rfl rfl hK'
          · obtain rfl := Option.some.inj ho
            obtain ⟨vg, hvg, hsg⟩ := hI.have 22 _ 78 (.val (.bool true)) rfl rfl rfl (hdep ⟨22, .guard⟩ (by simp) rfl)
            obtain rfl := hsg
            exact hI.stepLoad (by kernel_rfl) hls rfl (wanted_of rfl rfl rfl hvg) rfl 28 8 rfl (by kernel_rfl) (bY) 5 rfl 28 (#[.int .u64 y0, .int .u64 y1, .int .u64 y2, .int .u64 y3, .int .u64 y4]) HbY8.out _ Tryd.underlying28 rfl info28 rfl rfl rfl hK'
          · obtain rfl := Option.some.inj ho
            obtain ⟨vg, hvg, hsg⟩ := hI.have 22 _ 78 (.val (.bool true)) rfl rfl rfl (hdep ⟨22, .guard⟩ (by simp) rfl)
            obtain rfl := hsg
            obtain ⟨vp, hvp, hsp⟩ := hI.have 23 _ 79 (.val (.agg #[.int .u64 y0, .int .u64 y1, .int .u64 y2, .int .u64 y3, .int .u64 y4])) rfl rfl rfl (hdep ⟨23, .data⟩ (by simp) rfl)
            obtain rfl := hsp
            obtain ⟨vq, hvq, hsq⟩ := hI.have 24 _ 80 (.val (.agg #[.int .u64 y0, .int .u64 y1, .int .u64 y2, .int .u64 y3, .int .u64 y4])) rfl rfl rfl (hdep ⟨24, .data⟩ (by simp) rfl)
            obtain rfl := hsq
            exact hI.stepCall (by kernel_rfl) hls rfl (wanted_of rfl rfl rfl hvg) rfl 18 #[.tmp 79, .tmp 80] _ rfl #[.agg #[.int .u64 y0, .int .u64 y1, .int .u64 y2, .int .u64 y3, .int .u64 y4], .agg #[.int .u64 y0, .int .u64 y1, .int .u64 y2, .int .u64 y3, .int .u64 y4]] (by simp [eval_of hvp, eval_of hvq]) enterEqual (.val (.bool true)) rfl rfl ((equal_any y0 y1 y2 y3 y4 y0 y1 y2 y3 y4 nb nb _ HFy.out HFy.out).mono fun _ _ h => ⟨_, h.1.trans (congrArg (fun b => Ending.returned (.bool b)) (dec_of rfl)), rfl, h.2⟩) hK'
          · obtain rfl := Option.some.inj ho
            obtain ⟨vp, hvp, hsp⟩ := hI.have 22 _ 78 (.val (.bool true)) rfl rfl rfl (hdep ⟨22, .data⟩ (by simp) rfl)
            obtain rfl := hsp
            obtain ⟨vq, hvq, hsq⟩ := hI.have 25 _ 81 (.val (.bool true)) rfl rfl rfl (hdep ⟨25, .data⟩ (by simp) rfl)
            obtain rfl := hsq
            exact hI.stepPure (by kernel_rfl) hls rfl rfl rfl (.bool true) (by simp [execOp, eval_of hvp, eval_of hvq, asBool]) rfl rfl hK'
          · obtain rfl := Option.some.inj ho
            obtain ⟨vp, hvp, hsp⟩ := hI.have 26 _ 82 (.val (.bool true)) rfl rfl rfl (hdep ⟨26, .data⟩ (by simp) rfl)
            obtain rfl := hsp
            exact hI.stepPure (by kernel_rfl) hls rfl rfl rfl (.bool true) (by simp [execOp, eval_of hvp]) rfl rfl hK'
          · obtain rfl := Option.some.inj ho
            obtain ⟨vg, hvg, hsg⟩ := hI.have 27 _ 83 (.val (.bool true)) rfl rfl rfl (hdep ⟨27, .guard⟩ (by simp) rfl)
            obtain rfl := hsg
            exact hI.stepLoad (by kernel_rfl) hls rfl (wanted_of rfl rfl rfl hvg) rfl 28 13 rfl (by kernel_rfl) (w6.heap.size + 1) 5 rfl 28 (#[.int .u64 x0, .int .u64 x1, .int .u64 x2, .int .u64 x3, .int .u64 x4]) HbV8.out _ Tryd.underlying28 rfl info28 rfl rfl rfl hK'
          · obtain rfl := Option.some.inj ho
            obtain ⟨vg, hvg, hsg⟩ := hI.have 27 _ 83 (.val (.bool true)) rfl rfl rfl (hdep ⟨27, .guard⟩ (by simp) rfl)
            obtain rfl := hsg
            exact hI.stepLoad (by kernel_rfl) hls rfl (wanted_of rfl rfl rfl hvg) rfl 28 7 rfl (by kernel_rfl) (bX) 5 rfl 28 (#[.int .u64 x0, .int .u64 x1, .int .u64 x2, .int .u64 x3, .int .u64 x4]) HbX8.out _ Tryd.underlying28 rfl info28 rfl rfl rfl hK'
          · obtain rfl := Option.some.inj ho
            obtain ⟨vg, hvg, hsg⟩ := hI.have 27 _ 83 (.val (.bool true)) rfl rfl rfl (hdep ⟨27, .guard⟩ (by simp) rfl)
            obtain rfl := hsg
            obtain ⟨vp, hvp, hsp⟩ := hI.have 28 _ 84 (.val (.agg #[.int .u64 x0, .int .u64 x1, .int .u64 x2, .int .u64 x3, .int .u64 x4])) rfl rfl rfl (hdep ⟨28, .data⟩ (by simp) rfl)
            obtain rfl := hsp
            obtain ⟨vq, hvq, hsq⟩ := hI.have 29 _ 85 (.val (.agg #[.int .u64 x0, .int .u64 x1, .int .u64 x2, .int .u64 x3, .int .u64 x4])) rfl rfl rfl (hdep ⟨29, .data⟩ (by simp) rfl)
            obtain rfl := hsq
            exact hI.stepCall (by kernel_rfl) hls rfl (wanted_of rfl rfl rfl hvg) rfl 18 #[.tmp 84, .tmp 85] _ rfl #[.agg #[.int .u64 x0, .int .u64 x1, .int .u64 x2, .int .u64 x3, .int .u64 x4], .agg #[.int .u64 x0, .int .u64 x1, .int .u64 x2, .int .u64 x3, .int .u64 x4]] (by simp [eval_of hvp, eval_of hvq]) enterEqual (.val (.bool true)) rfl rfl ((equal_any x0 x1 x2 x3 x4 x0 x1 x2 x3 x4 na na _ HFx.out HFx.out).mono fun _ _ h => ⟨_, h.1.trans (congrArg (fun b => Ending.returned (.bool b)) (dec_of rfl)), rfl, h.2⟩) hK'
          · obtain rfl := Option.some.inj ho
            obtain ⟨vp, hvp, hsp⟩ := hI.have 27 _ 83 (.val (.bool true)) rfl rfl rfl (hdep ⟨27, .data⟩ (by simp) rfl)
            obtain rfl := hsp
            obtain ⟨vq, hvq, hsq⟩ := hI.have 30 _ 86 (.val (.bool true)) rfl rfl rfl (hdep ⟨30, .data⟩ (by simp) rfl)
            obtain rfl := hsq
            exact hI.stepPure (by kernel_rfl) hls rfl rfl rfl (.bool true) (by simp [execOp, eval_of hvp, eval_of hvq, asBool]) rfl rfl hK'
          · obtain rfl := Option.some.inj ho
            obtain ⟨vp, hvp, hsp⟩ := hI.have 31 _ 87 (.val (.bool true)) rfl rfl rfl (hdep ⟨31, .data⟩ (by simp) rfl)
            obtain rfl := hsp
            exact hI.stepPure (by kernel_rfl) hls rfl rfl rfl (.bool true) (by simp [execOp, eval_of hvp]) rfl rfl hK'
          · obtain rfl := Option.some.inj ho
            obtain ⟨vg, hvg, hsg⟩ := hI.have 32 _ 88 (.val (.bool true)) rfl rfl rfl (hdep ⟨32, .guard⟩ (by simp) rfl)
            obtain rfl := hsg
            exact hI.stepLoad (by kernel_rfl) hls rfl (wanted_of rfl rfl rfl hvg) rfl 28 14 rfl (by kernel_rfl) (w7.heap.size) 5 rfl 28 (#[.int .u64 x0, .int .u64 x1, .int .u64 x2, .int .u64 x3, .int .u64 x4]) HbS8.out _ Tryd.underlying28 rfl info28 rfl rfl rfl hK'
          · obtain rfl := Option.some.inj ho
            obtain ⟨vg, hvg, hsg⟩ := hI.have 32 _ 88 (.val (.bool true)) rfl rfl rfl (hdep ⟨32, .guard⟩ (by simp) rfl)
            obtain rfl := hsg
            exact hI.stepLoad (by kernel_rfl) hls rfl (wanted_of rfl rfl rfl hvg) rfl 28 7 rfl (by kernel_rfl) (bX) 5 rfl 28 (#[.int .u64 x0, .int .u64 x1, .int .u64 x2, .int .u64 x3, .int .u64 x4]) HbX8.out _ Tryd.underlying28 rfl info28 rfl rfl rfl hK'
          · obtain rfl := Option.some.inj ho
            obtain ⟨vg, hvg, hsg⟩ := hI.have 32 _ 88 (.val (.bool true)) rfl rfl rfl (hdep ⟨32, .guard⟩ (by simp) rfl)
            obtain rfl := hsg
            obtain ⟨vp, hvp, hsp⟩ := hI.have 33 _ 89 (.val (.agg #[.int .u64 x0, .int .u64 x1, .int .u64 x2, .int .u64 x3, .int .u64 x4])) rfl rfl rfl (hdep ⟨33, .data⟩ (by simp) rfl)
            obtain rfl := hsp
            obtain ⟨vq, hvq, hsq⟩ := hI.have 34 _ 90 (.val (.agg #[.int .u64 x0, .int .u64 x1, .int .u64 x2, .int .u64 x3, .int .u64 x4])) rfl rfl rfl (hdep ⟨34, .data⟩ (by simp) rfl)
            obtain rfl := hsq
            exact hI.stepCall (by kernel_rfl) hls rfl (wanted_of rfl rfl rfl hvg) rfl 18 #[.tmp 89, .tmp 90] _ rfl #[.agg #[.int .u64 x0, .int .u64 x1, .int .u64 x2, .int .u64 x3, .int .u64 x4], .agg #[.int .u64 x0, .int .u64 x1, .int .u64 x2, .int .u64 x3, .int .u64 x4]] (by simp [eval_of hvp, eval_of hvq]) enterEqual (.val (.bool true)) rfl rfl ((equal_any x0 x1 x2 x3 x4 x0 x1 x2 x3 x4 na na _ HFx.out HFx.out).mono fun _ _ h => ⟨_, h.1.trans (congrArg (fun b => Ending.returned (.bool b)) (dec_of rfl)), rfl, h.2⟩) hK'
          · obtain rfl := Option.some.inj ho
            obtain ⟨vp, hvp, hsp⟩ := hI.have 32 _ 88 (.val (.bool true)) rfl rfl rfl (hdep ⟨32, .data⟩ (by simp) rfl)
            obtain rfl := hsp
            obtain ⟨vq, hvq, hsq⟩ := hI.have 35 _ 91 (.val (.bool true)) rfl rfl rfl (hdep ⟨35, .data⟩ (by simp) rfl)
            obtain rfl := hsq
            exact hI.stepPure (by kernel_rfl) hls rfl rfl rfl (.bool true) (by simp [execOp, eval_of hvp, eval_of hvq, asBool]) rfl rfl hK'
          · obtain rfl := Option.some.inj ho
            obtain ⟨vp, hvp, hsp⟩ := hI.have 36 _ 92 (.val (.bool true)) rfl rfl rfl (hdep ⟨36, .data⟩ (by simp) rfl)
            obtain rfl := hsp
            exact hI.stepPure (by kernel_rfl) hls rfl rfl rfl (.bool true) (by simp [execOp, eval_of hvp]) rfl rfl hK'
          · obtain rfl := Option.some.inj ho
            obtain ⟨vg, hvg, hsg⟩ := hI.have 37 _ 93 (.val (.bool true)) rfl rfl rfl (hdep ⟨37, .guard⟩ (by simp) rfl)
            obtain rfl := hsg
            exact hI.stepLoad (by kernel_rfl) hls rfl (wanted_of rfl rfl rfl hvg) rfl 28 15 rfl (by kernel_rfl) (w7.heap.size + 1) 5 rfl 28 (#[.int .u64 y0, .int .u64 y1, .int .u64 y2, .int .u64 y3, .int .u64 y4]) HbT8.out _ Tryd.underlying28 rfl info28 rfl rfl rfl hK'
          · obtain rfl := Option.some.inj ho
            obtain ⟨vg, hvg, hsg⟩ := hI.have 37 _ 93 (.val (.bool true)) rfl rfl rfl (hdep ⟨37, .guard⟩ (by simp) rfl)
            obtain rfl := hsg
            exact hI.stepLoad (by kernel_rfl) hls rfl (wanted_of rfl rfl rfl hvg) rfl 28 8 rfl (by kernel_rfl) (bY) 5 rfl 28 (#[.int .u64 y0, .int .u64 y1, .int .u64 y2, .int .u64 y3, .int .u64 y4]) HbY8.out _ Tryd.underlying28 rfl info28 rfl rfl rfl hK'
          · obtain rfl := Option.some.inj ho
            obtain ⟨vg, hvg, hsg⟩ := hI.have 37 _ 93 (.val (.bool true)) rfl rfl rfl (hdep ⟨37, .guard⟩ (by simp) rfl)
            obtain rfl := hsg
            obtain ⟨vp, hvp, hsp⟩ := hI.have 38 _ 94 (.val (.agg #[.int .u64 y0, .int .u64 y1, .int .u64 y2, .int .u64 y3, .int .u64 y4])) rfl rfl rfl (hdep ⟨38, .data⟩ (by simp) rfl)
            obtain rfl := hsp
            obtain ⟨vq, hvq, hsq⟩ := hI.have 39 _ 95 (.val (.agg #[.int .u64 y0, .int .u64 y1, .int .u64 y2, .int .u64 y3, .int .u64 y4])) rfl rfl rfl (hdep ⟨39, .data⟩ (by simp) rfl)
            obtain rfl := hsq
            exact hI.stepCall (by kernel_rfl) hls rfl (wanted_of rfl rfl rfl hvg) rfl 18 #[.tmp 94, .tmp 95] _ rfl #[.agg #[.int .u64 y0, .int .u64 y1, .int .u64 y2, .int .u64 y3, .int .u64 y4], .agg #[.int .u64 y0, .int .u64 y1, .int .u64 y2, .int .u64 y3, .int .u64 y4]] (by simp [eval_of hvp, eval_of hvq]) enterEqual (.val (.bool true)) rfl rfl ((equal_any y0 y1 y2 y3 y4 y0 y1 y2 y3 y4 nb nb _ HFy.out HFy.out).mono fun _ _ h => ⟨_, h.1.trans (congrArg (fun b => Ending.returned (.bool b)) (dec_of rfl)), rfl, h.2⟩) hK'
          · obtain rfl := Option.some.inj ho
            obtain ⟨vp, hvp, hsp⟩ := hI.have 37 _ 93 (.val (.bool true)) rfl rfl rfl (hdep ⟨37, .data⟩ (by simp) rfl)
            obtain rfl := hsp
            obtain ⟨vq, hvq, hsq⟩ := hI.have 40 _ 96 (.val (.bool true)) rfl rfl rfl (hdep ⟨40, .data⟩ (by simp) rfl)
            obtain rfl := hsq
            exact hI.stepPure (by kernel_rfl) hls rfl rfl rfl (.bool true) (by simp [execOp, eval_of hvp, eval_of hvq, asBool]) rfl rfl hK'
          · obtain rfl := Option.some.inj ho
            obtain ⟨vp, hvp, hsp⟩ := hI.have 41 _ 97 (.val (.bool true)) rfl rfl rfl (hdep ⟨41, .data⟩ (by simp) rfl)
            obtain rfl := hsp
            exact hI.stepPure (by kernel_rfl) hls rfl rfl rfl (.bool true) (by simp [execOp, eval_of hvp]) rfl rfl hK'
          · obtain rfl := Option.some.inj ho
            obtain ⟨vg, hvg, hsg⟩ := hI.have 42 _ 98 (.val (.bool true)) rfl rfl rfl (hdep ⟨42, .guard⟩ (by simp) rfl)
            obtain rfl := hsg
            exact hI.stepLoad (by kernel_rfl) hls rfl (wanted_of rfl rfl rfl hvg) rfl 28 8 rfl (by kernel_rfl) (bY) 5 rfl 28 (#[.int .u64 y0, .int .u64 y1, .int .u64 y2, .int .u64 y3, .int .u64 y4]) HbY8.out _ Tryd.underlying28 rfl info28 rfl rfl rfl hK'
          · obtain rfl := Option.some.inj ho
            obtain ⟨vg, hvg, hsg⟩ := hI.have 42 _ 98 (.val (.bool true)) rfl rfl rfl (hdep ⟨42, .guard⟩ (by simp) rfl)
            obtain rfl := hsg
            obtain ⟨vp, hvp, hsp⟩ := hI.have 43 _ 99 (.val (.agg #[.int .u64 y0, .int .u64 y1, .int .u64 y2, .int .u64 y3, .int .u64 y4])) rfl rfl rfl (hdep ⟨43, .data⟩ (by simp) rfl)
            obtain rfl := hsp
            exact hI.stepCall (by kernel_rfl) hls rfl (wanted_of rfl rfl rfl hvg) rfl 11 #[.tmp 99] _ rfl #[.agg #[.int .u64 y0, .int .u64 y1, .int .u64 y2, .int .u64 y3, .int .u64 y4]] (by simp [eval_of hvp]) enterBytes (.val (.agg (numsA .u8 (digits 256 32 (nb % pp))))) rfl rfl ((bytes_any y0 y1 y2 y3 y4 nb _ HFy.out).mono fun _ _ h => ⟨_, h.1, rfl, h.2⟩) hK'
          · obtain rfl := Option.some.inj ho
            obtain ⟨vg, hvg, hsg⟩ := hI.have 42 _ 98 (.val (.bool true)) rfl rfl rfl (hdep ⟨42, .guard⟩ (by simp) rfl)
            obtain rfl := hsg
            obtain ⟨vp, hvp, hsp⟩ := hI.have 44 _ 100 (.val (.agg (numsA .u8 (digits 256 32 (nb % pp))))) rfl rfl rfl (hdep ⟨44, .data⟩ (by simp) rfl)
            obtain rfl := hsp
            exact hI.stepCall (by kernel_rfl) hls rfl (wanted_of rfl rfl rfl hvg) rfl 30 #[.tmp 100] _ rfl #[.agg (numsA .u8 (digits 256 32 (nb % pp)))] (by simp [eval_of hvp]) enterCanonical (.val (.bool true)) rfl rfl ((canonical_any (digits 256 32 (nb % pp)) _ (digits_length _ _ _) (digits_digs (by omega) _ _)).mono fun _ _ h => ⟨_, h.1.trans (congrArg (fun b => Ending.returned (.bool b)) (canonB_digits _)), rfl, h.2⟩) hK'
          · obtain rfl := Option.some.inj ho
            obtain ⟨vp, hvp, hsp⟩ := hI.have 42 _ 98 (.val (.bool true)) rfl rfl rfl (hdep ⟨42, .data⟩ (by simp) rfl)
            obtain rfl := hsp
            obtain ⟨vq, hvq, hsq⟩ := hI.have 45 _ 101 (.val (.bool true)) rfl rfl rfl (hdep ⟨45, .data⟩ (by simp) rfl)
            obtain rfl := hsq
            exact hI.stepPure (by kernel_rfl) hls rfl rfl rfl (.bool true) (by simp [execOp, eval_of hvp, eval_of hvq, asBool]) rfl rfl hK'
          · obtain rfl := Option.some.inj ho
            obtain ⟨vp, hvp, hsp⟩ := hI.have 46 _ 102 (.val (.bool true)) rfl rfl rfl (hdep ⟨46, .data⟩ (by simp) rfl)
            obtain rfl := hsp
            exact hI.stepPure (by kernel_rfl) hls rfl rfl rfl (.bool true) (by simp [execOp, eval_of hvp]) rfl rfl hK'
          · obtain rfl := Option.some.inj ho
            obtain ⟨vg, hvg, hsg⟩ := hI.have 47 _ 103 (.val (.bool true)) rfl rfl rfl (hdep ⟨47, .guard⟩ (by simp) rfl)
            obtain rfl := hsg
            exact hI.stepLoad (by kernel_rfl) hls rfl (wanted_of rfl rfl rfl hvg) rfl 28 9 rfl (by kernel_rfl) (bZ) 5 rfl 28 (#[.int .u64 z0, .int .u64 z1, .int .u64 z2, .int .u64 z3, .int .u64 z4]) HbZ8.out _ Tryd.underlying28 rfl info28 rfl rfl rfl hK'
          · obtain rfl := Option.some.inj ho
            obtain ⟨vg, hvg, hsg⟩ := hI.have 47 _ 103 (.val (.bool true)) rfl rfl rfl (hdep ⟨47, .guard⟩ (by simp) rfl)
            obtain rfl := hsg
            obtain ⟨vp, hvp, hsp⟩ := hI.have 48 _ 104 (.val (.agg #[.int .u64 z0, .int .u64 z1, .int .u64 z2, .int .u64 z3, .int .u64 z4])) rfl rfl rfl (hdep ⟨48, .data⟩ (by simp) rfl)
            obtain rfl := hsp
            exact hI.stepCall (by kernel_rfl) hls rfl (wanted_of rfl rfl rfl hvg) rfl 11 #[.tmp 104] _ rfl #[.agg #[.int .u64 z0, .int .u64 z1, .int .u64 z2, .int .u64 z3, .int .u64 z4]] (by simp [eval_of hvp]) enterBytes (.val (.agg (numsA .u8 (digits 256 32 (nc % pp))))) rfl rfl ((bytes_any z0 z1 z2 z3 z4 nc _ HFz.out).mono fun _ _ h => ⟨_, h.1, rfl, h.2⟩) hK'
          · obtain rfl := Option.some.inj ho
            obtain ⟨vg, hvg, hsg⟩ := hI.have 47 _ 103 (.val (.bool true)) rfl rfl rfl (hdep ⟨47, .guard⟩ (by simp) rfl)
            obtain rfl := hsg
            obtain ⟨vp, hvp, hsp⟩ := hI.have 49 _ 105 (.val (.agg (numsA .u8 (digits 256 32 (nc % pp))))) rfl rfl rfl (hdep ⟨49, .data⟩ (by simp) rfl)
            obtain rfl := hsp
            exact hI.stepCall (by kernel_rfl) hls rfl (wanted_of rfl rfl rfl hvg) rfl 8 #[.tmp 105] _ rfl #[.agg (numsA .u8 (digits 256 32 (nc % pp)))] (by simp [eval_of hvp]) enterOf (.elem (keyNum (digits 256 32 (nc % pp)))) rfl rfl ((of_any (digits 256 32 (nc % pp)) _ (digits_length _ _ _) (digits_digs (by omega) _ _)).mono fun _ _ h => h.sp) hK'
          · obtain rfl := Option.some.inj ho
            obtain ⟨vg, hvg, hsg⟩ := hI.have 47 _ 103 (.val (.bool true)) rfl rfl rfl (hdep ⟨47, .guard⟩ (by simp) rfl)
            obtain rfl := hsg
            exact hI.stepLoad (by kernel_rfl) hls rfl (wanted_of rfl rfl rfl hvg) rfl 28 9 rfl (by kernel_rfl) (bZ) 5 rfl 28 (#[.int .u64 z0, .int .u64 z1, .int .u64 z2, .int .u64 z3, .int .u64 z4]) HbZ8.out _ Tryd.underlying28 rfl info28 rfl rfl rfl hK'
          · obtain rfl := Option.some.inj ho
            obtain ⟨vg, hvg, hsg⟩ := hI.have 47 _ 103 (.val (.bool true)) rfl rfl rfl (hdep ⟨47, .guard⟩ (by simp) rfl)
            obtain rfl := hsg
            obtain ⟨vp, hvp, p0, p1, p2, p3, p4, rfl, hFp⟩ := hI.have 50 _ 106 (.elem (keyNum (digits 256 32 (nc % pp)))) rfl rfl rfl (hdep ⟨50, .data⟩ (by simp) rfl)
            obtain ⟨vq, hvq, hsq⟩ := hI.have 51 _ 107 (.val (.agg #[.int .u64 z0, .int .u64 z1, .int .u64 z2, .int .u64 z3, .int .u64 z4])) rfl rfl rfl (hdep ⟨51, .data⟩ (by simp) rfl)
            obtain rfl := hsq
            exact hI.stepCall (by kernel_rfl) hls rfl (wanted_of rfl rfl rfl hvg) rfl 18 #[.tmp 106, .tmp 107] _ rfl #[.agg #[.int .u64 p0, .int .u64 p1, .int .u64 p2, .int .u64 p3, .int .u64 p4], .agg #[.int .u64 z0, .int .u64 z1, .int .u64 z2, .int .u64 z3, .int .u64 z4]] (by simp [eval_of hvp, eval_of hvq]) enterEqual (.val (.bool true)) rfl rfl ((equal_any p0 p1 p2 p3 p4 z0 z1 z2 z3 z4 (keyNum (digits 256 32 (nc % pp))) nc _ hFp HFz.out).mono fun _ _ h => ⟨_, h.1.trans (congrArg (fun b => Ending.returned (.bool b)) (dec_key nc)), rfl, h.2⟩) hK'
          · obtain rfl := Option.some.inj ho
            obtain ⟨vp, hvp, hsp⟩ := hI.have 47 _ 103 (.val (.bool true)) rfl rfl rfl (hdep ⟨47, .data⟩ (by simp) rfl)
            obtain rfl := hsp
            obtain ⟨vq, hvq, hsq⟩ := hI.have 52 _ 108 (.val (.bool true)) rfl rfl rfl (hdep ⟨52, .data⟩ (by simp) rfl)
            obtain rfl := hsq
            exact hI.stepPure (by kernel_rfl) hls rfl rfl rfl (.bool true) (by simp [execOp, eval_of hvp, eval_of hvq, asBool]) rfl rfl hK'
          · obtain rfl := Option.some.inj ho
            obtain ⟨vp, hvp, hsp⟩ := hI.have 53 _ 109 (.val (.bool true)) rfl rfl rfl (hdep ⟨53, .data⟩ (by simp) rfl)
            obtain rfl := hsp
            exact hI.stepPure (by kernel_rfl) hls rfl rfl rfl (.bool true) (by simp [execOp, eval_of hvp]) rfl rfl hK'
        · intro fuel an wn hf hI
          obtain ⟨vs0, hvs0, hss0⟩ := hI.have 0 _ 56 (.val (.agg #[.int .u64 l0, .int .u64 l1, .int .u64 l2, .int .u64 l3, .int .u64 l4])) rfl rfl rfl rfl
          obtain rfl := hss0
          obtain ⟨vs1, hvs1, hss1⟩ := hI.have 1 _ 57 (.val (.agg #[.int .u64 r0, .int .u64 r1, .int .u64 r2, .int .u64 r3, .int .u64 r4])) rfl rfl rfl rfl
          obtain rfl := hss1
          obtain ⟨vs2, hvs2, hss2⟩ := hI.have 2 _ 58 (.val (.bool true)) rfl rfl rfl rfl
          obtain rfl := hss2
          obtain ⟨vs3, hvs3, hss3⟩ := hI.have 3 _ 59 (.val (.bool true)) rfl rfl rfl rfl
          obtain rfl := hss3
          obtain ⟨vs4, hvs4, hss4⟩ := hI.have 4 _ 60 (.val (.agg #[.int .u64 x0, .int .u64 x1, .int .u64 x2, .int .u64 x3, .int .u64 x4])) rfl rfl rfl rfl
          obtain rfl := hss4
          obtain ⟨vs5, hvs5, hss5⟩ := hI.have 5 _ 61 (.val (.agg #[.int .u64 x0, .int .u64 x1, .int .u64 x2, .int .u64 x3, .int .u64 x4])) rfl rfl rfl rfl
          obtain rfl := hss5
          obtain ⟨vs6, hvs6, es6_0, es6_1, es6_2, es6_3, es6_4, rfl, hFs6⟩ := hI.have 6 _ 62 (.elem (-na)) rfl rfl rfl rfl
          obtain ⟨vs7, hvs7, -⟩ := hI.have 7 _ 63 (.list [na, -na]) rfl rfl rfl rfl
          obtain ⟨vs8, hvs8, es8_0, es8_1, es8_2, es8_3, es8_4, rfl, hFs8⟩ := hI.have 8 _ 64 (.elem (sumTo [na, -na] [na, -na].length)) rfl rfl rfl rfl
          obtain ⟨vs9, hvs9, es9_0, es9_1, es9_2, es9_3, es9_4, rfl, hFs9⟩ := hI.have 9 _ 65 (.elem (0)) rfl rfl rfl rfl
          obtain ⟨vs10, hvs10, hss10⟩ := hI.have 10 _ 66 (.val (.bool true)) rfl rfl rfl rfl
          obtain rfl := hss10
          obtain ⟨vs11, hvs11, hss11⟩ := hI.have 11 _ 67 (.val (.bool true)) rfl rfl rfl rfl
          obtain rfl := hss11
          obtain ⟨vs12, hvs12, hss12⟩ := hI.have 12 _ 68 (.val (.bool true)) rfl rfl rfl rfl
          obtain rfl := hss12
          obtain ⟨vs13, hvs13, hss13⟩ := hI.have 13 _ 69 (.val (.agg #[.int .u64 x0, .int .u64 x1, .int .u64 x2, .int .u64 x3, .int .u64 x4])) rfl rfl rfl rfl
          obtain rfl := hss13
          obtain ⟨vs14, hvs14, hss14⟩ := hI.have 14 _ 70 (.val (.agg #[.int .u64 y0, .int .u64 y1, .int .u64 y2, .int .u64 y3, .int .u64 y4])) rfl rfl rfl rfl
          obtain rfl := hss14
          obtain ⟨vs15, hvs15, -⟩ := hI.have 15 _ 71 (.list [na, nb]) rfl rfl rfl rfl
          obtain ⟨vs16, hvs16, es16_0, es16_1, es16_2, es16_3, es16_4, rfl, hFs16⟩ := hI.have 16 _ 72 (.elem (sumTo [na, nb] [na, nb].length)) rfl rfl rfl rfl
          obtain ⟨vs17, hvs17, hss17⟩ := hI.have 17 _ 73 (.val (.agg #[.int .u64 y0, .int .u64 y1, .int .u64 y2, .int .u64 y3, .int .u64 y4])) rfl rfl rfl rfl
          obtain rfl := hss17
          obtain ⟨vs18, hvs18, es18_0, es18_1, es18_2, es18_3, es18_4, rfl, hFs18⟩ := hI.have 18 _ 74 (.elem ((sumTo [na, nb] [na, nb].length) - nb)) rfl rfl rfl rfl
          obtain ⟨vs19, hvs19, hss19⟩ := hI.have 19 _ 75 (.val (.agg #[.int .u64 x0, .int .u64 x1, .int .u64 x2, .int .u64 x3, .int .u64 x4])) rfl rfl rfl rfl
          obtain rfl := hss19
          obtain ⟨vs20, hvs20, hss20⟩ := hI.have 20 _ 76 (.val (.bool true)) rfl rfl rfl rfl
          obtain rfl := hss20
          obtain ⟨vs21, hvs21, hss21⟩ := hI.have 21 _ 77 (.val (.bool true)) rfl rfl rfl rfl
          obtain rfl := hss21
          obtain ⟨vs22, hvs22, hss22⟩ := hI.have 22 _ 78 (.val (.bool true)) rfl rfl rfl rfl
          obtain rfl := hss22
          obtain ⟨vs23, hvs23, hss23⟩ := hI.have 23 _ 79 (.val (.agg #[.int .u64 y0, .int .u64 y1, .int .u64 y2, .int .u64 y3, .int .u64 y4])) rfl rfl rfl rfl
          obtain rfl := hss23
          obtain ⟨vs24, hvs24, hss24⟩ := hI.have 24 _ 80 (.val (.agg #[.int .u64 y0, .int .u64 y1, .int .u64 y2, .int .u64 y3, .int .u64 y4])) rfl rfl rfl rfl
          obtain rfl := hss24
          obtain ⟨vs25, hvs25, hss25⟩ := hI.have 25 _ 81 (.val (.bool true)) rfl rfl rfl rfl
          obtain rfl := hss25
          obtain ⟨vs26, hvs26, hss26⟩ := hI.have 26 _ 82 (.val (.bool true)) rfl rfl rfl rfl
          obtain rfl := hss26
          obtain ⟨vs27, hvs27, hss27⟩ := hI.have 27 _ 83 (.val (.bool true)) rfl rfl rfl rfl
          obtain rfl := hss27
          obtain ⟨vs28, hvs28, hss28⟩ := hI.have 28 _ 84 (.val (.agg #[.int .u64 x0, .int .u64 x1, .int .u64 x2, .int .u64 x3, .int .u64 x4])) rfl rfl rfl rfl
          obtain rfl := hss28
          obtain ⟨vs29, hvs29, hss29⟩ := hI.have 29 _ 85 (.val (.agg #[.int .u64 x0, .int .u64 x1, .int .u64 x2, .int .u64 x3, .int .u64 x4])) rfl rfl rfl rfl
          obtain rfl := hss29
          obtain ⟨vs30, hvs30, hss30⟩ := hI.have 30 _ 86 (.val (.bool true)) rfl rfl rfl rfl
          obtain rfl := hss30
          obtain ⟨vs31, hvs31, hss31⟩ := hI.have 31 _ 87 (.val (.bool true)) rfl rfl rfl rfl
          obtain rfl := hss31
          obtain ⟨vs32, hvs32, hss32⟩ := hI.have 32 _ 88 (.val (.bool true)) rfl rfl rfl rfl
          obtain rfl := hss32
          obtain ⟨vs33, hvs33, hss33⟩ := hI.have 33 _ 89 (.val (.agg #[.int .u64 x0, .int .u64 x1, .int .u64 x2, .int .u64 x3, .int .u64 x4])) rfl rfl rfl rfl
          obtain rfl := hss33
          obtain ⟨vs34, hvs34, hss34⟩ := hI.have 34 _ 90 (.val (.agg #[.int .u64 x0, .int .u64 x1, .int .u64 x2, .int .u64 x3, .int .u64 x4])) rfl rfl rfl rfl
          obtain rfl := hss34
          obtain ⟨vs35, hvs35, hss35⟩ := hI.have 35 _ 91 (.val (.bool true)) rfl rfl rfl rfl
          obtain rfl := hss35
          obtain ⟨vs36, hvs36, hss36⟩ := hI.have 36 _ 92 (.val (.bool true)) rfl rfl rfl rfl
          obtain rfl := hss36
          obtain ⟨vs37, hvs37, hss37⟩ := hI.have 37 _ 93 (.val (.bool true)) rfl rfl rfl rfl
          obtain rfl := hss37
          obtain ⟨vs38, hvs38, hss38⟩ := hI.have 38 _ 94 (.val (.agg #[.int .u64 y0, .int .u64 y1, .int .u64 y2, .int .u64 y3, .int .u64 y4])) rfl rfl rfl rfl
          obtain rfl := hss38
          obtain ⟨vs39, hvs39, hss39⟩ := hI.have 39 _ 95 (.val (.agg #[.int .u64 y0, .int .u64 y1, .int .u64 y2, .int .u64 y3, .int .u64 y4])) rfl rfl rfl rfl
          obtain rfl := hss39
          obtain ⟨vs40, hvs40, hss40⟩ := hI.have 40 _ 96 (.val (.bool true)) rfl rfl rfl rfl
          obtain rfl := hss40
          obtain ⟨vs41, hvs41, hss41⟩ := hI.have 41 _ 97 (.val (.bool true)) rfl rfl rfl rfl
          obtain rfl := hss41
          obtain ⟨vs42, hvs42, hss42⟩ := hI.have 42 _ 98 (.val (.bool true)) rfl rfl rfl rfl
          obtain rfl := hss42
          obtain ⟨vs43, hvs43, hss43⟩ := hI.have 43 _ 99 (.val (.agg #[.int .u64 y0, .int .u64 y1, .int .u64 y2, .int .u64 y3, .int .u64 y4])) rfl rfl rfl rfl
          obtain rfl := hss43
          obtain ⟨vs44, hvs44, hss44⟩ := hI.have 44 _ 100 (.val (.agg (numsA .u8 (digits 256 32 (nb % pp))))) rfl rfl rfl rfl
          obtain rfl := hss44
          obtain ⟨vs45, hvs45, hss45⟩ := hI.have 45 _ 101 (.val (.bool true)) rfl rfl rfl rfl
          obtain rfl := hss45
          obtain ⟨vs46, hvs46, hss46⟩ := hI.have 46 _ 102 (.val (.bool true)) rfl rfl rfl rfl
          obtain rfl := hss46
          obtain ⟨vs47, hvs47, hss47⟩ := hI.have 47 _ 103 (.val (.bool true)) rfl rfl rfl rfl
          obtain rfl := hss47
          obtain ⟨vs48, hvs48, hss48⟩ := hI.have 48 _ 104 (.val (.agg #[.int .u64 z0, .int .u64 z1, .int .u64 z2, .int .u64 z3, .int .u64 z4])) rfl rfl rfl rfl
          obtain rfl := hss48
          obtain ⟨vs49, hvs49, hss49⟩ := hI.have 49 _ 105 (.val (.agg (numsA .u8 (digits 256 32 (nc % pp))))) rfl rfl rfl rfl
          obtain rfl := hss49
          obtain ⟨vs50, hvs50, es50_0, es50_1, es50_2, es50_3, es50_4, rfl, hFs50⟩ := hI.have 50 _ 106 (.elem (keyNum (digits 256 32 (nc % pp)))) rfl rfl rfl rfl
          obtain ⟨vs51, hvs51, hss51⟩ := hI.have 51 _ 107 (.val (.agg #[.int .u64 z0, .int .u64 z1, .int .u64 z2, .int .u64 z3, .int .u64 z4])) rfl rfl rfl rfl
          obtain rfl := hss51
          obtain ⟨vs52, hvs52, hss52⟩ := hI.have 52 _ 108 (.val (.bool true)) rfl rfl rfl rfl
          obtain rfl := hss52
          obtain ⟨vs53, hvs53, hss53⟩ := hI.have 53 _ 109 (.val (.bool true)) rfl rfl rfl rfl
          obtain rfl := hss53
          obtain ⟨vs54, hvs54, hss54⟩ := hI.have 54 _ 6 (.val (.bool true)) rfl rfl rfl rfl
          obtain rfl := hss54
          have hupd := hI.upd
          have ha := hI.act [(56, .agg #[.int .u64 l0, .int .u64 l1, .int .u64 l2, .int .u64 l3, .int .u64 l4]), (57, .agg #[.int .u64 r0, .int .u64 r1, .int .u64 r2, .int .u64 r3, .int .u64 r4]), (58, .bool true), (59, .bool true), (60, .agg #[.int .u64 x0, .int .u64 x1, .int .u64 x2, .int .u64 x3, .int .u64 x4]), (61, .agg #[.int .u64 x0, .int .u64 x1, .int .u64 x2, .int .u64 x3, .int .u64 x4]), (62, .agg #[.int .u64 es6_0, .int .u64 es6_1, .int .u64 es6_2, .int .u64 es6_3, .int .u64 es6_4]), (63, vs7), (64, .agg #[.int .u64 es8_0, .int .u64 es8_1, .int .u64 es8_2, .int .u64 es8_3, .int .u64 es8_4]), (65, .agg #[.int .u64 es9_0, .int .u64 es9_1, .int .u64 es9_2, .int .u64 es9_3, .int .u64 es9_4]), (66, .bool true), (67, .bool true), (68, .bool true), (69, .agg #[.int .u64 x0, .int .u64 x1, .int .u64 x2, .int .u64 x3, .int .u64 x4]), (70, .agg #[.int .u64 y0, .int .u64 y1, .int .u64 y2, .int .u64 y3, .int .u64 y4]), (71, vs15), (72, .agg #[.int .u64 es16_0, .int .u64 es16_1, .int .u64 es16_2, .int .u64 es16_3, .int .u64 es16_4]), (73, .agg #[.int .u64 y0, .int .u64 y1, .int .u64 y2, .int .u64 y3, .int .u64 y4]), (74, .agg #[.int .u64 es18_0, .int .u64 es18_1, .int .u64 es18_2, .int .u64 es18_3, .int .u64 es18_4]), (75, .agg #[.int .u64 x0, .int .u64 x1, .int .u64 x2, .int .u64 x3, .int .u64 x4]), (76, .bool true), (77, .bool true), (78, .bool true), (79, .agg #[.int .u64 y0, .int .u64 y1, .int .u64 y2, .int .u64 y3, .int .u64 y4]), (80, .agg #[.int .u64 y0, .int .u64 y1, .int .u64 y2, .int .u64 y3, .int .u64 y4]), (81, .bool true), (82, .bool true), (83, .bool true), (84, .agg #[.int .u64 x0, .int .u64 x1, .int .u64 x2, .int .u64 x3, .int .u64 x4]), (85, .agg #[.int .u64 x0, .int .u64 x1, .int .u64 x2, .int .u64 x3, .int .u64 x4]), (86, .bool true), (87, .bool true), (88, .bool true), (89, .agg #[.int .u64 x0, .int .u64 x1, .int .u64 x2, .int .u64 x3, .int .u64 x4]), (90, .agg #[.int .u64 x0, .int .u64 x1, .int .u64 x2, .int .u64 x3, .int .u64 x4]), (91, .bool true), (92, .bool true), (93, .bool true), (94, .agg #[.int .u64 y0, .int .u64 y1, .int .u64 y2, .int .u64 y3, .int .u64 y4]), (95, .agg #[.int .u64 y0, .int .u64 y1, .int .u64 y2, .int .u64 y3, .int .u64 y4]), (96, .bool true), (97, .bool true), (98, .bool true), (99, .agg #[.int .u64 y0, .int .u64 y1, .int .u64 y2, .int .u64 y3, .int .u64 y4]), (100, .agg (numsA .u8 (digits 256 32 (nb % pp)))), (101, .bool true), (102, .bool true), (103, .bool true), (104, .agg #[.int .u64 z0, .int .u64 z1, .int .u64 z2, .int .u64 z3, .int .u64 z4]), (105, .agg (numsA .u8 (digits 256 32 (nc % pp)))), (106, .agg #[.int .u64 es50_0, .int .u64 es50_1, .int .u64 es50_2, .int .u64 es50_3, .int .u64 es50_4]), (107, .agg #[.int .u64 z0, .int .u64 z1, .int .u64 z2, .int .u64 z3, .int .u64 z4]), (108, .bool true), (109, .bool true), (6, .bool true)] (by simp [hvs0, hvs1, hvs2, hvs3, hvs4, hvs5, hvs6, hvs7, hvs8, hvs9, hvs10, hvs11, hvs12, hvs13, hvs14, hvs15, hvs16, hvs17, hvs18, hvs19, hvs20, hvs21, hvs22, hvs23, hvs24, hvs25, hvs26, hvs27, hvs28, hvs29, hvs30, hvs31, hvs32, hvs33, hvs34, hvs35, hvs36, hvs37, hvs38, hvs39, hvs40, hvs41, hvs42, hvs43, hvs44, hvs45, hvs46, hvs47, hvs48, hvs49, hvs50, hvs51, hvs52, hvs53, hvs54]) (by kernel_rfl)
          clear hI hvs0 hvs1 hvs2 hvs3 hvs4 hvs5 hvs6 hvs7 hvs8 hvs9 hvs10 hvs11 hvs12 hvs13 hvs14 hvs15 hvs16 hvs17 hvs18 hvs19 hvs20 hvs21 hvs22 hvs23 hvs24 hvs25 hvs26 hvs27 hvs28 hvs29 hvs30 hvs31 hvs32 hvs33 hvs34 hvs35 hvs36 hvs37 hvs38 hvs39 hvs40 hvs41 hvs42 hvs43 hvs44 hvs45 hvs46 hvs47 hvs48 hvs49 hvs50 hvs51 hvs52 hvs53 hvs54
          subst ha
          simp only [List.foldl_cons, List.foldl_nil, List.setIfInBounds_toArray, List.set_cons_zero, List.set_cons_succ]
          refine wpAny_done (by kernel_rfl) ?_ _
          go_wp2
          go_ret
          exact ⟨rfl, Hu8.out.drew.trans hupd⟩
end Go.Proofs.YtaejngaohkalcaaDoor
