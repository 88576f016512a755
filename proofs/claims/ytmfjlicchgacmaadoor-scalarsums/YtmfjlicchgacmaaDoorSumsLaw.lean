/-
  The walk of ScalarSums.
-/
import Derived.Test.YtmfjlicchgacmaaDoorRed
import Derived.Test.YtmfjlicchgacmaaDoorRef4
namespace Go.Proofs.YtmfjlicchgacmaaDoor
open Go.RowKit

theorem enterCanonical (vs : Array Value) (w : World) : (callFunc 13 vs).run Tryd.prog w = .ok (.enter 13 vs) w := run_enter Tryd.func13 (by kernel_rfl) (by kernel_rfl) vs w
theorem enterMulAdd (vs : Array Value) (w : World) : (callFunc 11 vs).run Tryd.prog w = .ok (.enter 11 vs) w := run_enter Tryd.func11 (by kernel_rfl) (by kernel_rfl) vs w
theorem enterrCanonical (vs : Array Value) (w : World) : (callFunc 14 vs).run Tryd.prog w = .ok (.enter 14 vs) w := run_enter Tryd.func14 (by kernel_rfl) (by kernel_rfl) vs w
theorem enterrMulAdd (vs : Array Value) (w : World) : (callFunc 12 vs).run Tryd.prog w = .ok (.enter 12 vs) w := run_enter Tryd.func12 (by kernel_rfl) (by kernel_rfl) vs w
set_option maxRecDepth 100000 in
set_option maxHeartbeats 1600000 in
theorem scalarSums_any (la lb lc : List Int) (w : World) (hT : Tab w) (hla : la.length = 32) (hda : Digs 256 la) (hlb : lb.length = 32) (hdb : Digs 256 lb) (hlc : lc.length = 32) (hdc : Digs 256 lc) :
    Calls Tryd.prog 4 #[.agg (numsA .u8 la), .agg (numsA .u8 lb), .agg (numsA .u8 lc)] w fun e w' => e = .returned (.bool true) ∧ Upd (fun _ => False) w w' := by
  have HT := Lib.hid hT
  have Hla := Lib.hid hla
  have Hda := Lib.hid hda
  have HA : Hid ((numsA .u8 la).size = 32) := by show _ = _; rw [numsA_size]; exact hla
  have Hlb := Lib.hid hlb
  have Hdb := Lib.hid hdb
  have HB : Hid ((numsA .u8 lb).size = 32) := by show _ = _; rw [numsA_size]; exact hlb
  have Hlc := Lib.hid hlc
  have Hdc := Lib.hid hdc
  have HC : Hid ((numsA .u8 lc).size = 32) := by show _ = _; rw [numsA_size]; exact hlc
  clear hT hla hda hlb hdb hlc hdc
  go_enter Tryd.func4, Tryd.ntmps4
  go_wp2_with fail
  refine (counts_any _ (HT.out.upd ((((Upd.refl (fun _ => False) w).alloc _).alloc _).alloc _) (fun h => h))).mono ?_
  rintro e w1 ⟨rfl, hu⟩
  have Hka := Lib.hid (hu.blk (((Blk.at1 w (numsA .u8 la) 25).alloc _).alloc _) (fun h => h))
  have Hkb := Lib.hid (hu.blk ((Blk.at2 w _ (numsA .u8 lb) 25).alloc _) (fun h => h))
  have Hkc := Lib.hid (hu.blk (Blk.at3 w _ _ (numsA .u8 lc) 25) (fun h => h))
  have Hu1 := Lib.hid (((((Upd.refl (fun _ => False) w).alloc _).alloc _).alloc _).trans hu)
  clear hu
  go_wp2
  refine wp_region_slots #[true, true, true, true, true, true, true, true, true, true, true, true, true, true, true, true, true] ([.val (.agg (numsA .u8 la)), .val (.agg (numsA .u8 lb)), .val (.agg (numsA .u8 lc)), .val (.agg (numsA .u8 (mulL la lb lc))), .val (.agg (numsA .u8 la)), .val (.agg (numsA .u8 lb)), .val (.agg (numsA .u8 lc)), .val (.agg (numsA .u8 (mulL la lb lc))), .val (.bool true), .val (.bool true), .val (.agg (numsA .u8 la)), .val (.bool (decide (dig 256 la < oo))), .val (.agg (numsA .u8 la)), .val (.bool (decide (dig 256 la < oo))), .val (.bool true), .val (.bool true), .val (.bool true)] : List SP) (by kernel_rfl) (by kernel_rfl) (by kernel_rfl) ?_ ?_
  · intro i o listed an wn ho hls hst hun hdep hI K' hK'
    have hi : i < 17 := by
      have := idx_lt ho; simp only [List.size_toArray, List.length_cons, List.length_nil] at this; exact this
    have hcase : i = 0 ∨ i = 1 ∨ i = 2 ∨ i = 3 ∨ i = 4 ∨ i = 5 ∨ i = 6 ∨ i = 7 ∨ i = 8 ∨ i = 9 ∨ i = 10 ∨ i = 11 ∨ i = 12 ∨ i = 13 ∨ i = 14 ∨ i = 15 ∨ i = 16 := by clear hls hst hun hdep hI hK' ho; omega
    rcases hcase with rfl | rfl | rfl | rfl | rfl | rfl | rfl | rfl | rfl | rfl | rfl | rfl | rfl | rfl | rfl | rfl | rfl
    · obtain rfl := Option.some.inj ho
      have hvp : an.eval (.tmp 3) = .pointer (some ⟨w.heap.size, 0, none⟩) := hI.old (t := 3) (by kernel_rfl) rfl
      exact hI.stepRead (by kernel_rfl) hls rfl rfl rfl (.agg (numsA .u8 la)) (fun hu => run_loadKey rfl hvp wn (hu.blk (Hka.out) (fun h => h)) (HA.out)) rfl rfl hK'
    · obtain rfl := Option.some.inj ho
      have hvp : an.eval (.tmp 4) = .pointer (some ⟨w.heap.size + 1, 0, none⟩) := hI.old (t := 4) (by kernel_rfl) rfl
      exact hI.stepRead (by kernel_rfl) hls rfl rfl rfl (.agg (numsA .u8 lb)) (fun hu => run_loadKey rfl hvp wn (hu.blk (Hkb.out) (fun h => h)) (HB.out)) rfl rfl hK'
    · obtain rfl := Option.some.inj ho
      have hvp : an.eval (.tmp 5) = .pointer (some ⟨w.heap.size + 1 + 1, 0, none⟩) := hI.old (t := 5) (by kernel_rfl) rfl
      exact hI.stepRead (by kernel_rfl) hls rfl rfl rfl (.agg (numsA .u8 lc)) (fun hu => run_loadKey rfl hvp wn (hu.blk (Hkc.out) (fun h => h)) (HC.out)) rfl rfl hK'
    · obtain rfl := Option.some.inj ho
      obtain ⟨vp, hvp, hsp⟩ := hI.have 0 _ 9 (.val (.agg (numsA .u8 la))) rfl rfl rfl (hdep ⟨0, .data⟩ (by simp) rfl)
      obtain rfl := hsp
      obtain ⟨vq, hvq, hsq⟩ := hI.have 1 _ 10 (.val (.agg (numsA .u8 lb))) rfl rfl rfl (hdep ⟨1, .data⟩ (by simp) rfl)
      obtain rfl := hsq
      obtain ⟨vr, hvr, hsr⟩ := hI.have 2 _ 11 (.val (.agg (numsA .u8 lc))) rfl rfl rfl (hdep ⟨2, .data⟩ (by simp) rfl)
      obtain rfl := hsr
      exact hI.stepCall (by kernel_rfl) hls rfl rfl rfl 11 #[.tmp 9, .tmp 10, .tmp 11] _ rfl #[.agg (numsA .u8 la), .agg (numsA .u8 lb), .agg (numsA .u8 lc)] (by simp [eval_of hvp, eval_of hvq, eval_of hvr]) enterMulAdd (.val (.agg (numsA .u8 (mulL la lb lc)))) rfl rfl ((mulAdd_any la lb lc _ (HT.out.upd (Hu1.out.drew.trans hI.upd) (fun h => h)) (Hla.out) (Hda.out) (Hlb.out) (Hdb.out) (Hlc.out) (Hdc.out)).mono fun _ _ h => ⟨_, h.1, rfl, h.2⟩) hK'
    · obtain rfl := Option.some.inj ho
      have hvp : an.eval (.tmp 3) = .pointer (some ⟨w.heap.size, 0, none⟩) := hI.old (t := 3) (by kernel_rfl) rfl
      exact hI.stepRead (by kernel_rfl) hls rfl rfl rfl (.agg (numsA .u8 la)) (fun hu => run_loadKey rfl hvp wn (hu.blk (Hka.out) (fun h => h)) (HA.out)) rfl rfl hK'
    · obtain rfl := Option.some.inj ho
      have hvp : an.eval (.tmp 4) = .pointer (some ⟨w.heap.size + 1, 0, none⟩) := hI.old (t := 4) (by kernel_rfl) rfl
      exact hI.stepRead (by kernel_rfl) hls rfl rfl rfl (.agg (numsA .u8 lb)) (fun hu => run_loadKey rfl hvp wn (hu.blk (Hkb.out) (fun h => h)) (HB.out)) rfl rfl hK'
    · obtain rfl := Option.some.inj ho
      have hvp : an.eval (.tmp 5) = .pointer (some ⟨w.heap.size + 1 + 1, 0, none⟩) := hI.old (t := 5) (by kernel_rfl) rfl
      exact hI.stepRead (by kernel_rfl) hls rfl rfl rfl (.agg (numsA .u8 lc)) (fun hu => run_loadKey rfl hvp wn (hu.blk (Hkc.out) (fun h => h)) (HC.out)) rfl rfl hK'
    · obtain rfl := Option.some.inj ho
      obtain ⟨vp, hvp, hsp⟩ := hI.have 4 _ 13 (.val (.agg (numsA .u8 la))) rfl rfl rfl (hdep ⟨4, .data⟩ (by simp) rfl)
      obtain rfl := hsp
      obtain ⟨vq, hvq, hsq⟩ := hI.have 5 _ 14 (.val (.agg (numsA .u8 lb))) rfl rfl rfl (hdep ⟨5, .data⟩ (by simp) rfl)
      obtain rfl := hsq
      obtain ⟨vr, hvr, hsr⟩ := hI.have 6 _ 15 (.val (.agg (numsA .u8 lc))) rfl rfl rfl (hdep ⟨6, .data⟩ (by simp) rfl)
      obtain rfl := hsr
      exact hI.stepCall (by kernel_rfl) hls rfl rfl rfl 12 #[.tmp 13, .tmp 14, .tmp 15] _ rfl #[.agg (numsA .u8 la), .agg (numsA .u8 lb), .agg (numsA .u8 lc)] (by simp [eval_of hvp, eval_of hvq, eval_of hvr]) enterrMulAdd (.val (.agg (numsA .u8 (mulL la lb lc)))) rfl rfl ((rMulAdd_any la lb lc _ (Hla.out) (Hda.out) (Hlb.out) (Hdb.out) (Hlc.out) (Hdc.out)).mono fun _ _ h => ⟨_, h.1, rfl, h.2⟩) hK'
    · obtain rfl := Option.some.inj ho
      obtain ⟨vp, hvp, hsp⟩ := hI.have 3 _ 12 (.val (.agg (numsA .u8 (mulL la lb lc)))) rfl rfl rfl (hdep ⟨3, .data⟩ (by simp) rfl)
      obtain rfl := hsp
      obtain ⟨vq, hvq, hsq⟩ := hI.have 7 _ 16 (.val (.agg (numsA .u8 (mulL la lb lc)))) rfl rfl rfl (hdep ⟨7, .data⟩ (by simp) rfl)
      obtain rfl := hsq
      exact hI.stepPure (by kernel_rfl) hls rfl rfl rfl (.bool true) (run_eqlKey rfl (eval_of hvp) (eval_of hvq) (mulL_length _ _ _) (mulL_length _ _ _) (decide_eq_true rfl) wn) rfl rfl hK'
    · obtain rfl := Option.some.inj ho
      obtain ⟨vp, hvp, hsp⟩ := hI.have 8 _ 17 (.val (.bool true)) rfl rfl rfl (hdep ⟨8, .data⟩ (by simp) rfl)
      obtain rfl := hsp
      exact hI.stepPure (by kernel_rfl) hls rfl rfl rfl (.bool true) (by simp [execOp, (eval_of hvp)]) rfl rfl hK'
    · obtain rfl := Option.some.inj ho
      obtain ⟨vg, hvg, hsg⟩ := hI.have 9 _ 18 (.val (.bool true)) rfl rfl rfl (hdep ⟨9, .guard⟩ (by simp) rfl)
      obtain rfl := hsg
      have hvp : an.eval (.tmp 3) = .pointer (some ⟨w.heap.size, 0, none⟩) := hI.old (t := 3) (by kernel_rfl) rfl
      exact hI.stepRead (by kernel_rfl) hls rfl (wanted_of rfl rfl rfl hvg) rfl (.agg (numsA .u8 la)) (fun hu => run_loadKey rfl hvp wn (hu.blk (Hka.out) (fun h => h)) (HA.out)) rfl rfl hK'
    · obtain rfl := Option.some.inj ho
      obtain ⟨vg, hvg, hsg⟩ := hI.have 9 _ 18 (.val (.bool true)) rfl rfl rfl (hdep ⟨9, .guard⟩ (by simp) rfl)
      obtain rfl := hsg
      obtain ⟨vp, hvp, hsp⟩ := hI.have 10 _ 19 (.val (.agg (numsA .u8 la))) rfl rfl rfl (hdep ⟨10, .data⟩ (by simp) rfl)
      obtain rfl := hsp
      exact hI.stepCall (by kernel_rfl) hls rfl (wanted_of rfl rfl rfl hvg) rfl 13 #[.tmp 19] _ rfl #[.agg (numsA .u8 la)] (by simp [eval_of hvp]) enterCanonical (.val (.bool (decide (dig 256 la < oo)))) rfl rfl ((canonical_any la _ (HT.out.upd (Hu1.out.drew.trans hI.upd) (fun h => h)) (Hla.out) (Hda.out)).mono fun _ _ h => ⟨_, h.1, rfl, h.2⟩) hK'
    · obtain rfl := Option.some.inj ho
      obtain ⟨vg, hvg, hsg⟩ := hI.have 9 _ 18 (.val (.bool true)) rfl rfl rfl (hdep ⟨9, .guard⟩ (by simp) rfl)
      obtain rfl := hsg
      have hvp : an.eval (.tmp 3) = .pointer (some ⟨w.heap.size, 0, none⟩) := hI.old (t := 3) (by kernel_rfl) rfl
      exact hI.stepRead (by kernel_rfl) hls rfl (wanted_of rfl rfl rfl hvg) rfl (.agg (numsA .u8 la)) (fun hu => run_loadKey rfl hvp wn (hu.blk (Hka.out) (fun h => h)) (HA.out)) rfl rfl hK'
    · obtain rfl := Option.some.inj ho
      obtain ⟨vg, hvg, hsg⟩ := hI.have 9 _ 18 (.val (.bool true)) rfl rfl rfl (hdep ⟨9, .guard⟩ (by simp) rfl)
      obtain rfl := hsg
      obtain ⟨vp, hvp, hsp⟩ := hI.have 12 _ 21 (.val (.agg (numsA .u8 la))) rfl rfl rfl (hdep ⟨12, .data⟩ (by simp) rfl)
      obtain rfl := hsp
      exact hI.stepCall (by kernel_rfl) hls rfl (wanted_of rfl rfl rfl hvg) rfl 14 #[.tmp 21] _ rfl #[.agg (numsA .u8 la)] (by simp [eval_of hvp]) enterrCanonical (.val (.bool (decide (dig 256 la < oo)))) rfl rfl ((rCanonical_any la _ (Hla.out) (Hda.out)).mono fun _ _ h => ⟨_, h.1, rfl, h.2⟩) hK'
    · obtain rfl := Option.some.inj ho
      obtain ⟨vg, hvg, hsg⟩ := hI.have 9 _ 18 (.val (.bool true)) rfl rfl rfl (hdep ⟨9, .guard⟩ (by simp) rfl)
      obtain rfl := hsg
      obtain ⟨vp, hvp, hsp⟩ := hI.have 11 _ 20 (.val (.bool (decide (dig 256 la < oo)))) rfl rfl rfl (hdep ⟨11, .data⟩ (by simp) rfl)
      obtain rfl := hsp
      obtain ⟨vq, hvq, hsq⟩ := hI.have 13 _ 22 (.val (.bool (decide (dig 256 la < oo)))) rfl rfl rfl (hdep ⟨13, .data⟩ (by simp) rfl)
      obtain rfl := hsq
      exact hI.stepPure (by kernel_rfl) hls rfl (wanted_of rfl rfl rfl hvg) rfl (.bool true) (run_eqlBool rfl (eval_of hvp) (eval_of hvq) (rfl) wn) rfl rfl hK'
    · obtain rfl := Option.some.inj ho
      obtain ⟨vp, hvp, hsp⟩ := hI.have 9 _ 18 (.val (.bool true)) rfl rfl rfl (hdep ⟨9, .data⟩ (by simp) rfl)
      obtain rfl := hsp
      obtain ⟨vq, hvq, hsq⟩ := hI.have 14 _ 23 (.val (.bool true)) rfl rfl rfl (hdep ⟨14, .data⟩ (by simp) rfl)
      obtain rfl := hsq
      exact hI.stepPure (by kernel_rfl) hls rfl rfl rfl (.bool true) (by simp [execOp, (eval_of hvp), asBool, (eval_of hvq)]) rfl rfl hK'
    · obtain rfl := Option.some.inj ho
      obtain ⟨vp, hvp, hsp⟩ := hI.have 15 _ 24 (.val (.bool true)) rfl rfl rfl (hdep ⟨15, .data⟩ (by simp) rfl)
      obtain rfl := hsp
      exact hI.stepPure (by kernel_rfl) hls rfl rfl rfl (.bool true) (by simp [execOp, (eval_of hvp)]) rfl rfl hK'
  · intro fuel an wn hf hI
    obtain ⟨v0, hv0, hs0⟩ := hI.have 0 _ 9 (.val (.agg (numsA .u8 la))) rfl rfl rfl rfl
    obtain rfl := hs0
    obtain ⟨v1, hv1, hs1⟩ := hI.have 1 _ 10 (.val (.agg (numsA .u8 lb))) rfl rfl rfl rfl
    obtain rfl := hs1
    obtain ⟨v2, hv2, hs2⟩ := hI.have 2 _ 11 (.val (.agg (numsA .u8 lc))) rfl rfl rfl rfl
    obtain rfl := hs2
    obtain ⟨v3, hv3, hs3⟩ := hI.have 3 _ 12 (.val (.agg (numsA .u8 (mulL la lb lc)))) rfl rfl rfl rfl
    obtain rfl := hs3
    obtain ⟨v4, hv4, hs4⟩ := hI.have 4 _ 13 (.val (.agg (numsA .u8 la))) rfl rfl rfl rfl
    obtain rfl := hs4
    obtain ⟨v5, hv5, hs5⟩ := hI.have 5 _ 14 (.val (.agg (numsA .u8 lb))) rfl rfl rfl rfl
    obtain rfl := hs5
    obtain ⟨v6, hv6, hs6⟩ := hI.have 6 _ 15 (.val (.agg (numsA .u8 lc))) rfl rfl rfl rfl
    obtain rfl := hs6
    obtain ⟨v7, hv7, hs7⟩ := hI.have 7 _ 16 (.val (.agg (numsA .u8 (mulL la lb lc)))) rfl rfl rfl rfl
    obtain rfl := hs7
    obtain ⟨v8, hv8, hs8⟩ := hI.have 8 _ 17 (.val (.bool true)) rfl rfl rfl rfl
    obtain rfl := hs8
    obtain ⟨v9, hv9, hs9⟩ := hI.have 9 _ 18 (.val (.bool true)) rfl rfl rfl rfl
    obtain rfl := hs9
    obtain ⟨v10, hv10, hs10⟩ := hI.have 10 _ 19 (.val (.agg (numsA .u8 la))) rfl rfl rfl rfl
    obtain rfl := hs10
    obtain ⟨v11, hv11, hs11⟩ := hI.have 11 _ 20 (.val (.bool (decide (dig 256 la < oo)))) rfl rfl rfl rfl
    obtain rfl := hs11
    obtain ⟨v12, hv12, hs12⟩ := hI.have 12 _ 21 (.val (.agg (numsA .u8 la))) rfl rfl rfl rfl
    obtain rfl := hs12
    obtain ⟨v13, hv13, hs13⟩ := hI.have 13 _ 22 (.val (.bool (decide (dig 256 la < oo)))) rfl rfl rfl rfl
    obtain rfl := hs13
    obtain ⟨v14, hv14, hs14⟩ := hI.have 14 _ 23 (.val (.bool true)) rfl rfl rfl rfl
    obtain rfl := hs14
    obtain ⟨v15, hv15, hs15⟩ := hI.have 15 _ 24 (.val (.bool true)) rfl rfl rfl rfl
    obtain rfl := hs15
    obtain ⟨v16, hv16, hs16⟩ := hI.have 16 _ 6 (.val (.bool true)) rfl rfl rfl rfl
    obtain rfl := hs16
    have hupd := hI.upd
    have ha := hI.act [(9, .agg (numsA .u8 la)), (10, .agg (numsA .u8 lb)), (11, .agg (numsA .u8 lc)), (12, .agg (numsA .u8 (mulL la lb lc))), (13, .agg (numsA .u8 la)), (14, .agg (numsA .u8 lb)), (15, .agg (numsA .u8 lc)), (16, .agg (numsA .u8 (mulL la lb lc))), (17, .bool true), (18, .bool true), (19, .agg (numsA .u8 la)), (20, .bool (decide (dig 256 la < oo))), (21, .agg (numsA .u8 la)), (22, .bool (decide (dig 256 la < oo))), (23, .bool true), (24, .bool true), (6, .bool true)] (by simp [hv0, hv1, hv2, hv3, hv4, hv5, hv6, hv7, hv8, hv9, hv10, hv11, hv12, hv13, hv14, hv15, hv16]) (by kernel_rfl)
    clear hI hv0 hv1 hv2 hv3 hv4 hv5 hv6 hv7 hv8 hv9 hv10 hv11 hv12 hv13 hv14 hv15 hv16
    subst ha
    simp only [List.foldl_cons, List.foldl_nil, List.setIfInBounds_toArray, List.set_cons_zero, List.set_cons_succ]
    refine wpAny_done (by kernel_rfl) ?_ _
    go_wp2
    go_ret
    exact ⟨rfl, Hu1.out.drew.trans hupd⟩
end Go.Proofs.YtmfjlicchgacmaaDoor
