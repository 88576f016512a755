/-
  The walk of ScalarRules.
-/
import Derived.Test.YtmfjlicchgacmaaDoorRed
namespace Go.Proofs.YtmfjlicchgacmaaDoor
open Go.RowKit

theorem enterCanonical (vs : Array Value) (w : World) : (callFunc 13 vs).run Tryd.prog w = .ok (.enter 13 vs) w := run_enter Tryd.func13 (by kernel_rfl) (by kernel_rfl) vs w
theorem enterReduce (vs : Array Value) (w : World) : (callFunc 9 vs).run Tryd.prog w = .ok (.enter 9 vs) w := run_enter Tryd.func9 (by kernel_rfl) (by kernel_rfl) vs w
theorem enterMulAdd (vs : Array Value) (w : World) : (callFunc 11 vs).run Tryd.prog w = .ok (.enter 11 vs) w := run_enter Tryd.func11 (by kernel_rfl) (by kernel_rfl) vs w
set_option maxRecDepth 100000 in
set_option maxHeartbeats 1600000 in
theorem scalarRules_any (la lb lc : List Int) (w : World) (hT : Tab w) (hla : la.length = 32) (hda : Digs 256 la) (hlb : lb.length = 32) (hdb : Digs 256 lb) (hlc : lc.length = 32) (hdc : Digs 256 lc) :
    Calls Tryd.prog 5 #[.agg (numsA .u8 la), .agg (numsA .u8 lb), .agg (numsA .u8 lc)] w fun e w' => e = .returned (.bool true) ∧ Upd (fun _ => False) w w' := by
  have HT := Lib.hid hT
  have Hla := Lib.hid hla
  have Hda := Lib.hid hda
  have HA : Hid ((numsA .u8 la).size = 32) := by show _ = _; rw [numsA_size]; exact hla
  have Hlb := Lib.hid hlb
  have Hdb := Lib.hid hdb
  have HB : Hid ((numsA .u8 lb).size = 32) := by show _ = _; rw [numsA_size]; exact hlb
  have Hlc := Lib.hid hlc
  have Hdc := Lib.hid hdc
  have HC : Hid ((numsA .u8 lc).size = 32) := by show _ = _; rw [numsA_size]; exact hlc
  have H1 : Hid ((numsA .u8 (keyL 1)).size = 32) := by show _ = _; rw [numsA_size]; exact keyL_length _
  have H0 : Hid ((numsA .u8 (keyL 0)).size = 32) := by show _ = _; rw [numsA_size]; exact keyL_length _
  have HX : Hid ((numsA .u8 (redL la)).size = 32) := by show _ = _; rw [numsA_size]; exact redL_length _
  have HY : Hid ((numsA .u8 (mulL lb (keyL 1) lc)).size = 32) := by show _ = _; rw [numsA_size]; exact mulL_length _ _ _
  clear hT hla hda hlb hdb hlc hdc
  have hz := zeroK_run
  have hset := zeroK_set
  have hzs := zeroK_size
  go_enter Tryd.func5, Tryd.ntmps5
  go_wp2_with fail
  refine (counts_any _ (HT.out.upd ((((Upd.refl (fun _ => False) w).alloc _).alloc _).alloc _) (fun h => h))).mono ?_
  rintro e w1 ⟨rfl, hu⟩
  have Hka := Lib.hid (hu.blk (((Blk.at1 w (numsA .u8 la) 25).alloc _).alloc _) (fun h => h))
  have Hkb := Lib.hid (hu.blk ((Blk.at2 w _ (numsA .u8 lb) 25).alloc _) (fun h => h))
  have Hkc := Lib.hid (hu.blk (Blk.at3 w _ _ (numsA .u8 lc) 25) (fun h => h))
  have Hu1 := Lib.hid (((((Upd.refl (fun _ => False) w).alloc _).alloc _).alloc _).trans hu)
  have hlt1 := Hkc.out.lt
  clear hu
  go_wp2_with (first
    | (refine wpList_storeBlk2 rfl 25 _ _ rfl w1.heap.size 0 32 rfl (numsA .u8 (keyL 1)) rfl 25 _ ((Blk.at1 w1 zeroK 25).alloc (.cells zeroK 25)) sizeKey H1.out (by rw [zeroK_size]; omega) (numsA_one _ _) ?_; intro w2 hb2 hu2 hz2; rw [splice_all _ _ 32 zeroK_size H1.out] at hb2; have Ho2 := Lib.hid hb2; have Hn2 := Lib.hid (hu2.blk (Blk.at2 w1 (.cells zeroK 25) zeroK 25) (show ¬ w1.heap.size + 1 = w1.heap.size by omega)); have Hu2 := Lib.hid (((Hu1.out.alloc _).alloc _).step hu2 (fun i hi h => by omega)); have Hka2 := Lib.hid (hu2.blk ((Hka.out.alloc _).alloc _) (show ¬ w.heap.size = w1.heap.size by omega)); have Hkb2 := Lib.hid (hu2.blk ((Hkb.out.alloc _).alloc _) (show ¬ w.heap.size + 1 = w1.heap.size by omega)); have Hkc2 := Lib.hid (hu2.blk ((Hkc.out.alloc _).alloc _) (show ¬ w.heap.size + 1 + 1 = w1.heap.size by omega)); clear hb2 hu2 hz2)
    | (refine wpList_storeBlk2 rfl 25 _ _ rfl (w1.heap.size + 1) 0 32 rfl (numsA .u8 (keyL 0)) rfl 25 _ Hn2.out sizeKey H0.out (by rw [zeroK_size]; omega) (numsA_one _ _) ?_; intro w3 hb3 hu3 hz3; rw [splice_all _ _ 32 zeroK_size H0.out] at hb3; have Hn3 := Lib.hid hb3; have Ho3 := Lib.hid (hu3.blk Ho2.out (show ¬ w1.heap.size = w1.heap.size + 1 by omega)); have Hu3 := Lib.hid (Hu2.out.step hu3 (fun i hi h => by omega)); have Hka3 := Lib.hid (hu3.blk Hka2.out (show ¬ w.heap.size = w1.heap.size + 1 by omega)); have Hkb3 := Lib.hid (hu3.blk Hkb2.out (show ¬ w.heap.size + 1 = w1.heap.size + 1 by omega)); have Hkc3 := Lib.hid (hu3.blk Hkc2.out (show ¬ w.heap.size + 1 + 1 = w1.heap.size + 1 by omega)); clear hb3 hu3 hz3 Ho2 Hn2 Hu2 Hka2 Hkb2 Hkc2 Hka Hkb Hkc Hu1))
  refine (reduce_key la w.heap.size w3.heap.size 25 _ (HT.out.upd (Hu3.out.alloc _) (fun h => h)) Hla.out Hda.out (Hka3.out.alloc _) (Blk.at1 w3 _ _)).mono ?_
  rintro e w4 ⟨rfl, hu⟩
  have hlt3 := Hn3.out.lt
  have Ho4 := Lib.hid (hu.blk (Ho3.out.alloc _) (fun h => h))
  have Hn4 := Lib.hid (hu.blk (Hn3.out.alloc _) (fun h => h))
  have Hka4 := Lib.hid (hu.blk (Hka3.out.alloc _) (fun h => h))
  have Hkb4 := Lib.hid (hu.blk (Hkb3.out.alloc _) (fun h => h))
  have Hkc4 := Lib.hid (hu.blk (Hkc3.out.alloc _) (fun h => h))
  have Hu4 := Lib.hid ((Hu3.out.alloc _).trans hu)
  have hlt4 := Hn4.out.lt
  clear hu Ho3 Hn3 Hka3 Hkb3 Hkc3 Hu3
  go_wp2_with (refine wpList_storeBlk2 rfl 25 _ _ rfl w4.heap.size 0 32 rfl (numsA .u8 (redL la)) rfl 25 _ (Blk.at1 w4 zeroK 25) sizeKey HX.out (by rw [zeroK_size]; omega) (numsA_one _ _) ?_; intro w5 hb5 hu5 hz5; rw [splice_all _ _ 32 zeroK_size HX.out] at hb5; have Hx5 := Lib.hid hb5; have Ho5 := Lib.hid (hu5.blk (Ho4.out.alloc _) (show ¬ w1.heap.size = w4.heap.size by omega)); have Hn5 := Lib.hid (hu5.blk (Hn4.out.alloc _) (show ¬ w1.heap.size + 1 = w4.heap.size by omega)); have Hka5 := Lib.hid (hu5.blk (Hka4.out.alloc _) (show ¬ w.heap.size = w4.heap.size by omega)); have Hkb5 := Lib.hid (hu5.blk (Hkb4.out.alloc _) (show ¬ w.heap.size + 1 = w4.heap.size by omega)); have Hkc5 := Lib.hid (hu5.blk (Hkc4.out.alloc _) (show ¬ w.heap.size + 1 + 1 = w4.heap.size by omega)); have Hu5 := Lib.hid ((Hu4.out.alloc _).step hu5 (fun i hi h => by have := Hu4.out.size; omega)); clear hb5 hu5 hz5)
  clear Ho4 Hn4 Hka4 Hkb4 Hkc4 Hu4
  dsimp only [Act.put]
  have hx5 := Hx5.out.lt
  generalize w4.heap.size = bx at *
  generalize w1.heap.size = bo at *
  refine wp_region_slots #[true, true, true, true, true, true, true, true, true, true, true, true, true, true, true, true, true, true, true, true, true, true, true, true, true, true] ([.val (.agg (numsA .u8 (redL la))), .val (.bool true), .val (.bool false), .val (.bool false), .val (.slice (some ⟨bx, 0, none⟩) 32 32), .blk (fun b => .slice (some ⟨b, 0, none⟩) 1 1) 22 #[.slice (some ⟨bx, 0, none⟩) 32 32], .val (.agg (numsA .u8 (redL (redL la)))), .val (.agg (numsA .u8 (redL la))), .val (.bool false), .val (.bool false), .val (.bool false), .val (.agg (numsA .u8 la)), .val (.agg (numsA .u8 (keyL 1))), .val (.agg (numsA .u8 (keyL 0))), .val (.agg (numsA .u8 (mulL la (keyL 1) (keyL 0)))), .val (.agg (numsA .u8 (redL la))), .val (.bool false), .val (.bool false), .val (.bool false), .val (.agg (numsA .u8 la)), .val (.bool (decide (dig 256 la < oo))), .val (.agg (numsA .u8 la)), .val (.agg (numsA .u8 (redL la))), .val (.bool (decide (la = redL la))), .val (.bool false), .val (.bool false)] : List SP) (by kernel_rfl) (by kernel_rfl) (by kernel_rfl) ?_ ?_
  · intro i o listed an wn ho hls hst hun hdep hI K' hK'
    have hi : i < 26 := by
      have := idx_lt ho; simp only [List.size_toArray, List.length_cons, List.length_nil] at this; exact this
    have hcase : i = 0 ∨ i = 1 ∨ i = 2 ∨ i = 3 ∨ i = 4 ∨ i = 5 ∨ i = 6 ∨ i = 7 ∨ i = 8 ∨ i = 9 ∨ i = 10 ∨ i = 11 ∨ i = 12 ∨ i = 13 ∨ i = 14 ∨ i = 15 ∨ i = 16 ∨ i = 17 ∨ i = 18 ∨ i = 19 ∨ i = 20 ∨ i = 21 ∨ i = 22 ∨ i = 23 ∨ i = 24 ∨ i = 25 := by clear hls hst hun hdep hI hK' ho; omega
    rcases hcase with rfl | rfl | rfl | rfl | rfl | rfl | rfl | rfl | rfl | rfl | rfl | rfl | rfl | rfl | rfl | rfl | rfl | rfl | rfl | rfl | rfl | rfl | rfl | rfl | rfl | rfl
    · obtain rfl := Option.some.inj ho
      have hvp : an.eval (.tmp 9) = .pointer (some ⟨bx, 0, none⟩) := hI.old (t := 9) (by kernel_rfl) rfl
      exact hI.stepRead (by kernel_rfl) hls rfl rfl rfl (.agg (numsA .u8 (redL la))) (fun hu => run_loadKey rfl hvp wn (hu.blk (Hx5.out) (fun h => h)) (HX.out)) rfl rfl hK'
    · obtain rfl := Option.some.inj ho
      obtain ⟨vp, hvp, hsp⟩ := hI.have 0 _ 18 (.val (.agg (numsA .u8 (redL la)))) rfl rfl rfl (hdep ⟨0, .data⟩ (by simp) rfl)
      obtain rfl := hsp
      exact hI.stepCall (by kernel_rfl) hls rfl rfl rfl 13 #[.tmp 18] _ rfl #[.agg (numsA .u8 (redL la))] (by simp [eval_of hvp]) enterCanonical (.val (.bool true)) rfl rfl ((canonical_any (redL la) _ (HT.out.upd (Hu5.out.drew.trans hI.upd) (fun h => h)) (redL_length _) (redL_digs _)).mono fun _ _ h => ⟨_, h.1.trans (congrArg (fun b => Ending.returned (.bool b)) (redL_canon la)), rfl, h.2⟩) hK'
    · obtain rfl := Option.some.inj ho
      obtain ⟨vp, hvp, hsp⟩ := hI.have 1 _ 19 (.val (.bool true)) rfl rfl rfl (hdep ⟨1, .data⟩ (by simp) rfl)
      obtain rfl := hsp
      exact hI.stepPure (by kernel_rfl) hls rfl rfl rfl (.bool false) (run_not rfl (eval_of hvp) wn) rfl rfl hK'
    · obtain rfl := Option.some.inj ho
      obtain ⟨vp, hvp, hsp⟩ := hI.have 2 _ 20 (.val (.bool false)) rfl rfl rfl (hdep ⟨2, .data⟩ (by simp) rfl)
      obtain rfl := hsp
      exact hI.stepPure (by kernel_rfl) hls rfl rfl rfl (.bool false) (by simp [execOp, (eval_of hvp)]) rfl rfl hK'
    · obtain rfl := Option.some.inj ho
      obtain ⟨vg, hvg, hsg⟩ := hI.have 3 _ 21 (.val (.bool false)) rfl rfl rfl (hdep ⟨3, .guard⟩ (by simp) rfl)
      obtain rfl := hsg
      have hvp : an.eval (.tmp 9) = .pointer (some ⟨bx, 0, none⟩) := hI.old (t := 9) (by kernel_rfl) rfl
      exact hI.stepPure (by kernel_rfl) hls rfl (wanted_of rfl rfl rfl hvg) rfl (.slice (some ⟨bx, 0, none⟩) 32 32) (run_sliceK rfl hvp wn) rfl rfl hK'
    · obtain rfl := Option.some.inj ho
      obtain ⟨vg, hvg, hsg⟩ := hI.have 3 _ 21 (.val (.bool false)) rfl rfl rfl (hdep ⟨3, .guard⟩ (by simp) rfl)
      obtain rfl := hsg
      obtain ⟨vp, hvp, hsp⟩ := hI.have 4 _ 22 (.val (.slice (some ⟨bx, 0, none⟩) 32 32)) rfl rfl rfl (hdep ⟨4, .data⟩ (by simp) rfl)
      obtain rfl := hsp
      exact hI.stepBlk (by kernel_rfl) hls (Nat.le_refl _) rfl (wanted_of rfl rfl rfl hvg) rfl _ _ _ (run_list1 rfl (eval_of hvp) wn) rfl rfl hK'
    · obtain rfl := Option.some.inj ho
      obtain ⟨vg, hvg, hsg⟩ := hI.have 3 _ 21 (.val (.bool false)) rfl rfl rfl (hdep ⟨3, .guard⟩ (by simp) rfl)
      obtain rfl := hsg
      obtain ⟨vp, hvp, bp, rfl, hnp, hbp⟩ := hI.have 5 _ 23 (.blk (fun b => .slice (some ⟨b, 0, none⟩) 1 1) 22 #[.slice (some ⟨bx, 0, none⟩) 32 32]) rfl rfl rfl (hdep ⟨5, .data⟩ (by simp) rfl)
      exact hI.stepCall (by kernel_rfl) hls rfl (wanted_of rfl rfl rfl hvg) rfl 9 #[.tmp 23] _ rfl #[.slice (some ⟨bp, 0, none⟩) 1 1] (by simp [eval_of hvp]) enterReduce (.val (.agg (numsA .u8 (redL (redL la))))) rfl rfl ((reduce_key (redL la) bx bp 25 _ (HT.out.upd (Hu5.out.drew.trans hI.upd) (fun h => h)) (redL_length _) (redL_digs _) (hI.upd.blk (show Blk _ _ _ _ from Hx5.out) (fun h => h)) hbp).mono fun _ _ h => ⟨_, h.1, rfl, h.2⟩) hK'
    · obtain rfl := Option.some.inj ho
      obtain ⟨vg, hvg, hsg⟩ := hI.have 3 _ 21 (.val (.bool false)) rfl rfl rfl (hdep ⟨3, .guard⟩ (by simp) rfl)
      obtain rfl := hsg
      have hvp : an.eval (.tmp 9) = .pointer (some ⟨bx, 0, none⟩) := hI.old (t := 9) (by kernel_rfl) rfl
      exact hI.stepRead (by kernel_rfl) hls rfl (wanted_of rfl rfl rfl hvg) rfl (.agg (numsA .u8 (redL la))) (fun hu => run_loadKey rfl hvp wn (hu.blk (Hx5.out) (fun h => h)) (HX.out)) rfl rfl hK'
    · obtain rfl := Option.some.inj ho
      obtain ⟨vg, hvg, hsg⟩ := hI.have 3 _ 21 (.val (.bool false)) rfl rfl rfl (hdep ⟨3, .guard⟩ (by simp) rfl)
      obtain rfl := hsg
      obtain ⟨vp, hvp, hsp⟩ := hI.have 6 _ 24 (.val (.agg (numsA .u8 (redL (redL la))))) rfl rfl rfl (hdep ⟨6, .data⟩ (by simp) rfl)
      obtain rfl := hsp
      obtain ⟨vq, hvq, hsq⟩ := hI.have 7 _ 25 (.val (.agg (numsA .u8 (redL la)))) rfl rfl rfl (hdep ⟨7, .data⟩ (by simp) rfl)
      obtain rfl := hsq
      exact hI.stepPure (by kernel_rfl) hls rfl (wanted_of rfl rfl rfl hvg) rfl (.bool false) (run_neqKey rfl (eval_of hvp) (eval_of hvq) (redL_length _) (redL_length _) (decide_eq_false (fun h => h (redL_red la))) wn) rfl rfl hK'
    · obtain rfl := Option.some.inj ho
      obtain ⟨vp, hvp, hsp⟩ := hI.have 3 _ 21 (.val (.bool false)) rfl rfl rfl (hdep ⟨3, .data⟩ (by simp) rfl)
      obtain rfl := hsp
      obtain ⟨vq, hvq, hsq⟩ := hI.have 8 _ 26 (.val (.bool false)) rfl rfl rfl (hdep ⟨8, .data⟩ (by simp) rfl)
      obtain rfl := hsq
      exact hI.stepPure (by kernel_rfl) hls rfl rfl rfl (.bool false) (by simp [execOp, (eval_of hvp), asBool, (eval_of hvq)]) rfl rfl hK'
    · obtain rfl := Option.some.inj ho
      obtain ⟨vp, hvp, hsp⟩ := hI.have 9 _ 27 (.val (.bool false)) rfl rfl rfl (hdep ⟨9, .data⟩ (by simp) rfl)
      obtain rfl := hsp
      exact hI.stepPure (by kernel_rfl) hls rfl rfl rfl (.bool false) (by simp [execOp, (eval_of hvp)]) rfl rfl hK'
    · obtain rfl := Option.some.inj ho
      obtain ⟨vg, hvg, hsg⟩ := hI.have 10 _ 28 (.val (.bool false)) rfl rfl rfl (hdep ⟨10, .guard⟩ (by simp) rfl)
      obtain rfl := hsg
      have hvp : an.eval (.tmp 3) = .pointer (some ⟨w.heap.size, 0, none⟩) := hI.old (t := 3) (by kernel_rfl) rfl
      exact hI.stepRead (by kernel_rfl) hls rfl (wanted_of rfl rfl rfl hvg) rfl (.agg (numsA .u8 la)) (fun hu => run_loadKey rfl hvp wn (hu.blk (Hka5.out) (fun h => h)) (HA.out)) rfl rfl hK'
    · obtain rfl := Option.some.inj ho
      obtain ⟨vg, hvg, hsg⟩ := hI.have 10 _ 28 (.val (.bool false)) rfl rfl rfl (hdep ⟨10, .guard⟩ (by simp) rfl)
      obtain rfl := hsg
      have hvp : an.eval (.tmp 7) = .pointer (some ⟨bo, 0, none⟩) := hI.old (t := 7) (by kernel_rfl) rfl
      exact hI.stepRead (by kernel_rfl) hls rfl (wanted_of rfl rfl rfl hvg) rfl (.agg (numsA .u8 (keyL 1))) (fun hu => run_loadKey rfl hvp wn (hu.blk (Ho5.out) (fun h => h)) (H1.out)) rfl rfl hK'
    · obtain rfl := Option.some.inj ho
      obtain ⟨vg, hvg, hsg⟩ := hI.have 10 _ 28 (.val (.bool false)) rfl rfl rfl (hdep ⟨10, .guard⟩ (by simp) rfl)
      obtain rfl := hsg
      have hvp : an.eval (.tmp 8) = .pointer (some ⟨bo + 1, 0, none⟩) := hI.old (t := 8) (by kernel_rfl) rfl
      exact hI.stepRead (by kernel_rfl) hls rfl (wanted_of rfl rfl rfl hvg) rfl (.agg (numsA .u8 (keyL 0))) (fun hu => run_loadKey rfl hvp wn (hu.blk (Hn5.out) (fun h => h)) (H0.out)) rfl rfl hK'
    · obtain rfl := Option.some.inj ho
      obtain ⟨vg, hvg, hsg⟩ := hI.have 10 _ 28 (.val (.bool false)) rfl rfl rfl (hdep ⟨10, .guard⟩ (by simp) rfl)
      obtain rfl := hsg
      obtain ⟨vp, hvp, hsp⟩ := hI.have 11 _ 29 (.val (.agg (numsA .u8 la))) rfl rfl rfl (hdep ⟨11, .data⟩ (by simp) rfl)
      obtain rfl := hsp
      obtain ⟨vq, hvq, hsq⟩ := hI.have 12 _ 30 (.val (.agg (numsA .u8 (keyL 1)))) rfl rfl rfl (hdep ⟨12, .data⟩ (by simp) rfl)
      obtain rfl := hsq
      obtain ⟨vr, hvr, hsr⟩ := hI.have 13 _ 31 (.val (.agg (numsA .u8 (keyL 0)))) rfl rfl rfl (hdep ⟨13, .data⟩ (by simp) rfl)
      obtain rfl := hsr
      exact hI.stepCall (by kernel_rfl) hls rfl (wanted_of rfl rfl rfl hvg) rfl 11 #[.tmp 29, .tmp 30, .tmp 31] _ rfl #[.agg (numsA .u8 la), .agg (numsA .u8 (keyL 1)), .agg (numsA .u8 (keyL 0))] (by simp [eval_of hvp, eval_of hvq, eval_of hvr]) enterMulAdd (.val (.agg (numsA .u8 (mulL la (keyL 1) (keyL 0))))) rfl rfl ((mulAdd_any la (keyL 1) (keyL 0) _ (HT.out.upd (Hu5.out.drew.trans hI.upd) (fun h => h)) (Hla.out) (Hda.out) (keyL_length _) (keyL_digs (by omega)) (keyL_length _) (keyL_digs (by omega))).mono fun _ _ h => ⟨_, h.1, rfl, h.2⟩) hK'
    · obtain rfl := Option.some.inj ho
      obtain ⟨vg, hvg, hsg⟩ := hI.have 10 _ 28 (.val (.bool false)) rfl rfl rfl (hdep ⟨10, .guard⟩ (by simp) rfl)
      obtain rfl := hsg
      have hvp : an.eval (.tmp 9) = .pointer (some ⟨bx, 0, none⟩) := hI.old (t := 9) (by kernel_rfl) rfl
      exact hI.stepRead (by kernel_rfl) hls rfl (wanted_of rfl rfl rfl hvg) rfl (.agg (numsA .u8 (redL la))) (fun hu => run_loadKey rfl hvp wn (hu.blk (Hx5.out) (fun h => h)) (HX.out)) rfl rfl hK'
    · obtain rfl := Option.some.inj ho
      obtain ⟨vg, hvg, hsg⟩ := hI.have 10 _ 28 (.val (.bool false)) rfl rfl rfl (hdep ⟨10, .guard⟩ (by simp) rfl)
      obtain rfl := hsg
      obtain ⟨vp, hvp, hsp⟩ := hI.have 14 _ 32 (.val (.agg (numsA .u8 (mulL la (keyL 1) (keyL 0))))) rfl rfl rfl (hdep ⟨14, .data⟩ (by simp) rfl)
      obtain rfl := hsp
      obtain ⟨vq, hvq, hsq⟩ := hI.have 15 _ 33 (.val (.agg (numsA .u8 (redL la)))) rfl rfl rfl (hdep ⟨15, .data⟩ (by simp) rfl)
      obtain rfl := hsq
      exact hI.stepPure (by kernel_rfl) hls rfl (wanted_of rfl rfl rfl hvg) rfl (.bool false) (run_neqKey rfl (eval_of hvp) (eval_of hvq) (mulL_length _ _ _) (redL_length _) (decide_eq_false (fun h => h (mulL_one la))) wn) rfl rfl hK'
    · obtain rfl := Option.some.inj ho
      obtain ⟨vp, hvp, hsp⟩ := hI.have 10 _ 28 (.val (.bool false)) rfl rfl rfl (hdep ⟨10, .data⟩ (by simp) rfl)
      obtain rfl := hsp
      obtain ⟨vq, hvq, hsq⟩ := hI.have 16 _ 34 (.val (.bool false)) rfl rfl rfl (hdep ⟨16, .data⟩ (by simp) rfl)
      obtain rfl := hsq
      exact hI.stepPure (by kernel_rfl) hls rfl rfl rfl (.bool false) (by simp [execOp, (eval_of hvp), asBool, (eval_of hvq)]) rfl rfl hK'
    · obtain rfl := Option.some.inj ho
      obtain ⟨vp, hvp, hsp⟩ := hI.have 17 _ 35 (.val (.bool false)) rfl rfl rfl (hdep ⟨17, .data⟩ (by simp) rfl)
      obtain rfl := hsp
      exact hI.stepPure (by kernel_rfl) hls rfl rfl rfl (.bool false) (by simp [execOp, (eval_of hvp)]) rfl rfl hK'
    · obtain rfl := Option.some.inj ho
      obtain ⟨vg, hvg, hsg⟩ := hI.have 18 _ 36 (.val (.bool false)) rfl rfl rfl (hdep ⟨18, .guard⟩ (by simp) rfl)
      obtain rfl := hsg
      have hvp : an.eval (.tmp 3) = .pointer (some ⟨w.heap.size, 0, none⟩) := hI.old (t := 3) (by kernel_rfl) rfl
      exact hI.stepRead (by kernel_rfl) hls rfl (wanted_of rfl rfl rfl hvg) rfl (.agg (numsA .u8 la)) (fun hu => run_loadKey rfl hvp wn (hu.blk (Hka5.out) (fun h => h)) (HA.out)) rfl rfl hK'
    · obtain rfl := Option.some.inj ho
      obtain ⟨vg, hvg, hsg⟩ := hI.have 18 _ 36 (.val (.bool false)) rfl rfl rfl (hdep ⟨18, .guard⟩ (by simp) rfl)
      obtain rfl := hsg
      obtain ⟨vp, hvp, hsp⟩ := hI.have 19 _ 37 (.val (.agg (numsA .u8 la))) rfl rfl rfl (hdep ⟨19, .data⟩ (by simp) rfl)
      obtain rfl := hsp
      exact hI.stepCall (by kernel_rfl) hls rfl (wanted_of rfl rfl rfl hvg) rfl 13 #[.tmp 37] _ rfl #[.agg (numsA .u8 la)] (by simp [eval_of hvp]) enterCanonical (.val (.bool (decide (dig 256 la < oo)))) rfl rfl ((canonical_any la _ (HT.out.upd (Hu5.out.drew.trans hI.upd) (fun h => h)) Hla.out Hda.out).mono fun _ _ h => ⟨_, h.1, rfl, h.2⟩) hK'
    · obtain rfl := Option.some.inj ho
      obtain ⟨vg, hvg, hsg⟩ := hI.have 18 _ 36 (.val (.bool false)) rfl rfl rfl (hdep ⟨18, .guard⟩ (by simp) rfl)
      obtain rfl := hsg
      have hvp : an.eval (.tmp 3) = .pointer (some ⟨w.heap.size, 0, none⟩) := hI.old (t := 3) (by kernel_rfl) rfl
      exact hI.stepRead (by kernel_rfl) hls rfl (wanted_of rfl rfl rfl hvg) rfl (.agg (numsA .u8 la)) (fun hu => run_loadKey rfl hvp wn (hu.blk (Hka5.out) (fun h => h)) (HA.out)) rfl rfl hK'
    · obtain rfl := Option.some.inj ho
      obtain ⟨vg, hvg, hsg⟩ := hI.have 18 _ 36 (.val (.bool false)) rfl rfl rfl (hdep ⟨18, .guard⟩ (by simp) rfl)
      obtain rfl := hsg
      have hvp : an.eval (.tmp 9) = .pointer (some ⟨bx, 0, none⟩) := hI.old (t := 9) (by kernel_rfl) rfl
      exact hI.stepRead (by kernel_rfl) hls rfl (wanted_of rfl rfl rfl hvg) rfl (.agg (numsA .u8 (redL la))) (fun hu => run_loadKey rfl hvp wn (hu.blk (Hx5.out) (fun h => h)) (HX.out)) rfl rfl hK'
    · obtain rfl := Option.some.inj ho
      obtain ⟨vg, hvg, hsg⟩ := hI.have 18 _ 36 (.val (.bool false)) rfl rfl rfl (hdep ⟨18, .guard⟩ (by simp) rfl)
      obtain rfl := hsg
      obtain ⟨vp, hvp, hsp⟩ := hI.have 21 _ 39 (.val (.agg (numsA .u8 la))) rfl rfl rfl (hdep ⟨21, .data⟩ (by simp) rfl)
      obtain rfl := hsp
      obtain ⟨vq, hvq, hsq⟩ := hI.have 22 _ 40 (.val (.agg (numsA .u8 (redL la)))) rfl rfl rfl (hdep ⟨22, .data⟩ (by simp) rfl)
      obtain rfl := hsq
      exact hI.stepPure (by kernel_rfl) hls rfl (wanted_of rfl rfl rfl hvg) rfl (.bool (decide (la = redL la))) (run_eqlKey rfl (eval_of hvp) (eval_of hvq) (Hla.out) (redL_length _) (rfl) wn) rfl rfl hK'
    · obtain rfl := Option.some.inj ho
      obtain ⟨vg, hvg, hsg⟩ := hI.have 18 _ 36 (.val (.bool false)) rfl rfl rfl (hdep ⟨18, .guard⟩ (by simp) rfl)
      obtain rfl := hsg
      obtain ⟨vp, hvp, hsp⟩ := hI.have 20 _ 38 (.val (.bool (decide (dig 256 la < oo)))) rfl rfl rfl (hdep ⟨20, .data⟩ (by simp) rfl)
      obtain rfl := hsp
      obtain ⟨vq, hvq, hsq⟩ := hI.have 23 _ 41 (.val (.bool (decide (la = redL la)))) rfl rfl rfl (hdep ⟨23, .data⟩ (by simp) rfl)
      obtain rfl := hsq
      exact hI.stepPure (by kernel_rfl) hls rfl (wanted_of rfl rfl rfl hvg) rfl (.bool false) (run_neqBool rfl (eval_of hvp) (eval_of hvq) (canon_red Hla.out Hda.out) wn) rfl rfl hK'
    · obtain rfl := Option.some.inj ho
      obtain ⟨vp, hvp, hsp⟩ := hI.have 18 _ 36 (.val (.bool false)) rfl rfl rfl (hdep ⟨18, .data⟩ (by simp) rfl)
      obtain rfl := hsp
      obtain ⟨vq, hvq, hsq⟩ := hI.have 24 _ 42 (.val (.bool false)) rfl rfl rfl (hdep ⟨24, .data⟩ (by simp) rfl)
      obtain rfl := hsq
      exact hI.stepPure (by kernel_rfl) hls rfl rfl rfl (.bool false) (by simp [execOp, (eval_of hvp), asBool, (eval_of hvq)]) rfl rfl hK'
  · intro fuel an wn hf hI
    obtain ⟨v0, hv0, hs0⟩ := hI.have 0 _ 18 (.val (.agg (numsA .u8 (redL la)))) rfl rfl rfl rfl
    obtain rfl := hs0
    obtain ⟨v1, hv1, hs1⟩ := hI.have 1 _ 19 (.val (.bool true)) rfl rfl rfl rfl
    obtain rfl := hs1
    obtain ⟨v2, hv2, hs2⟩ := hI.have 2 _ 20 (.val (.bool false)) rfl rfl rfl rfl
    obtain rfl := hs2
    obtain ⟨v3, hv3, hs3⟩ := hI.have 3 _ 21 (.val (.bool false)) rfl rfl rfl rfl
    obtain rfl := hs3
    obtain ⟨v4, hv4, hs4⟩ := hI.have 4 _ 22 (.val (.slice (some ⟨bx, 0, none⟩) 32 32)) rfl rfl rfl rfl
    obtain rfl := hs4
    obtain ⟨v5, hv5, b5, rfl, hn5, hb5⟩ := hI.have 5 _ 23 (.blk (fun b => .slice (some ⟨b, 0, none⟩) 1 1) 22 #[.slice (some ⟨bx, 0, none⟩) 32 32]) rfl rfl rfl rfl
    obtain ⟨v6, hv6, hs6⟩ := hI.have 6 _ 24 (.val (.agg (numsA .u8 (redL (redL la))))) rfl rfl rfl rfl
    obtain rfl := hs6
    obtain ⟨v7, hv7, hs7⟩ := hI.have 7 _ 25 (.val (.agg (numsA .u8 (redL la)))) rfl rfl rfl rfl
    obtain rfl := hs7
    obtain ⟨v8, hv8, hs8⟩ := hI.have 8 _ 26 (.val (.bool false)) rfl rfl rfl rfl
    obtain rfl := hs8
    obtain ⟨v9, hv9, hs9⟩ := hI.have 9 _ 27 (.val (.bool false)) rfl rfl rfl rfl
    obtain rfl := hs9
    obtain ⟨v10, hv10, hs10⟩ := hI.have 10 _ 28 (.val (.bool false)) rfl rfl rfl rfl
    obtain rfl := hs10
    obtain ⟨v11, hv11, hs11⟩ := hI.have 11 _ 29 (.val (.agg (numsA .u8 la))) rfl rfl rfl rfl
    obtain rfl := hs11
    obtain ⟨v12, hv12, hs12⟩ := hI.have 12 _ 30 (.val (.agg (numsA .u8 (keyL 1)))) rfl rfl rfl rfl
    obtain rfl := hs12
    obtain ⟨v13, hv13, hs13⟩ := hI.have 13 _ 31 (.val (.agg (numsA .u8 (keyL 0)))) rfl rfl rfl rfl
    obtain rfl := hs13
    obtain ⟨v14, hv14, hs14⟩ := hI.have 14 _ 32 (.val (.agg (numsA .u8 (mulL la (keyL 1) (keyL 0))))) rfl rfl rfl rfl
    obtain rfl := hs14
    obtain ⟨v15, hv15, hs15⟩ := hI.have 15 _ 33 (.val (.agg (numsA .u8 (redL la)))) rfl rfl rfl rfl
    obtain rfl := hs15
    obtain ⟨v16, hv16, hs16⟩ := hI.have 16 _ 34 (.val (.bool false)) rfl rfl rfl rfl
    obtain rfl := hs16
    obtain ⟨v17, hv17, hs17⟩ := hI.have 17 _ 35 (.val (.bool false)) rfl rfl rfl rfl
    obtain rfl := hs17
    obtain ⟨v18, hv18, hs18⟩ := hI.have 18 _ 36 (.val (.bool false)) rfl rfl rfl rfl
    obtain rfl := hs18
    obtain ⟨v19, hv19, hs19⟩ := hI.have 19 _ 37 (.val (.agg (numsA .u8 la))) rfl rfl rfl rfl
    obtain rfl := hs19
    obtain ⟨v20, hv20, hs20⟩ := hI.have 20 _ 38 (.val (.bool (decide (dig 256 la < oo)))) rfl rfl rfl rfl
    obtain rfl := hs20
    obtain ⟨v21, hv21, hs21⟩ := hI.have 21 _ 39 (.val (.agg (numsA .u8 la))) rfl rfl rfl rfl
    obtain rfl := hs21
    obtain ⟨v22, hv22, hs22⟩ := hI.have 22 _ 40 (.val (.agg (numsA .u8 (redL la)))) rfl rfl rfl rfl
    obtain rfl := hs22
    obtain ⟨v23, hv23, hs23⟩ := hI.have 23 _ 41 (.val (.bool (decide (la = redL la)))) rfl rfl rfl rfl
    obtain rfl := hs23
    obtain ⟨v24, hv24, hs24⟩ := hI.have 24 _ 42 (.val (.bool false)) rfl rfl rfl rfl
    obtain rfl := hs24
    obtain ⟨v25, hv25, hs25⟩ := hI.have 25 _ 43 (.val (.bool false)) rfl rfl rfl rfl
    obtain rfl := hs25
    have hupd := hI.upd
    have ha := hI.act [(18, .agg (numsA .u8 (redL la))), (19, .bool true), (20, .bool false), (21, .bool false), (22, .slice (some ⟨bx, 0, none⟩) 32 32), (23, .slice (some ⟨b5, 0, none⟩) 1 1), (24, .agg (numsA .u8 (redL (redL la)))), (25, .agg (numsA .u8 (redL la))), (26, .bool false), (27, .bool false), (28, .bool false), (29, .agg (numsA .u8 la)), (30, .agg (numsA .u8 (keyL 1))), (31, .agg (numsA .u8 (keyL 0))), (32, .agg (numsA .u8 (mulL la (keyL 1) (keyL 0)))), (33, .agg (numsA .u8 (redL la))), (34, .bool false), (35, .bool false), (36, .bool false), (37, .agg (numsA .u8 la)), (38, .bool (decide (dig 256 la < oo))), (39, .agg (numsA .u8 la)), (40, .agg (numsA .u8 (redL la))), (41, .bool (decide (la = redL la))), (42, .bool false), (43, .bool false)] (by simp [hv0, hv1, hv2, hv3, hv4, hv5, hv6, hv7, hv8, hv9, hv10, hv11, hv12, hv13, hv14, hv15, hv16, hv17, hv18, hv19, hv20, hv21, hv22, hv23, hv24, hv25]) (by kernel_rfl)
    clear hI hv0 hv1 hv2 hv3 hv4 hv5 hv6 hv7 hv8 hv9 hv10 hv11 hv12 hv13 hv14 hv15 hv16 hv17 hv18 hv19 hv20 hv21 hv22 hv23 hv24 hv25
    subst ha
    simp only [List.foldl_cons, List.foldl_nil, List.setIfInBounds_toArray, List.set_cons_zero, List.set_cons_succ]
    refine wpAny_done (by kernel_rfl) ?_ _
    have Hu6 := Lib.hid (Hu5.out.drew.trans hupd)
    have Hka6 := Lib.hid (hupd.blk (show Blk _ _ _ _ from Hka5.out) (fun h => h))
    have Hkb6 := Lib.hid (hupd.blk (show Blk _ _ _ _ from Hkb5.out) (fun h => h))
    have Hkc6 := Lib.hid (hupd.blk (show Blk _ _ _ _ from Hkc5.out) (fun h => h))
    have Ho6 := Lib.hid (hupd.blk (show Blk _ _ _ _ from Ho5.out) (fun h => h))
    have Hn6 := Lib.hid (hupd.blk (show Blk _ _ _ _ from Hn5.out) (fun h => h))
    have Hx6 := Lib.hid (hupd.blk (show Blk _ _ _ _ from Hx5.out) (fun h => h))
    clear hupd hb5 hn5 Hu5 Hka5 Hkb5 Hkc5 Ho5 Hn5 Hx5
    go_wp2_with (first | (refine wpList_loadBlk rfl 25 _ rfl (w.heap.size + 1) 0 32 rfl 25 (numsA .u8 lb) _ Hkb6.out Tryd.underlying25 rfl sizeKey (by rw [HB.out]; omega) ?_; rw [extract_all _ _ HB.out]) | (refine wpList_loadBlk rfl 25 _ rfl bo 0 32 rfl 25 (numsA .u8 (keyL 1)) _ Ho6.out Tryd.underlying25 rfl sizeKey (by rw [H1.out]; omega) ?_; rw [extract_all _ _ H1.out]) | (refine wpList_loadBlk rfl 25 _ rfl (w.heap.size + 1 + 1) 0 32 rfl 25 (numsA .u8 lc) _ Hkc6.out Tryd.underlying25 rfl sizeKey (by rw [HC.out]; omega) ?_; rw [extract_all _ _ HC.out]))
    refine (mulAdd_any lb (keyL 1) lc _ (HT.out.upd Hu6.out (fun h => h)) Hlb.out Hdb.out (keyL_length _) (keyL_digs (by omega)) Hlc.out Hdc.out).mono ?_
    rintro e w7 ⟨rfl, hu⟩
    have Hka7 := Lib.hid (hu.blk Hka6.out (fun h => h))
    have Hkb7 := Lib.hid (hu.blk Hkb6.out (fun h => h))
    have Hkc7 := Lib.hid (hu.blk Hkc6.out (fun h => h))
    have Ho7 := Lib.hid (hu.blk Ho6.out (fun h => h))
    have Hn7 := Lib.hid (hu.blk Hn6.out (fun h => h))
    have Hx7 := Lib.hid (hu.blk Hx6.out (fun h => h))
    have Hu7 := Lib.hid (Hu6.out.trans hu)
    have hx7 := Hx7.out.lt
    have hn7 := Hn7.out.lt
    have hk7 := Hkc7.out.lt
    clear hu Hka6 Hkb6 Hkc6 Ho6 Hn6 Hx6 Hu6
    go_wp2_with (refine wpList_storeBlk2 rfl 25 _ _ rfl w7.heap.size 0 32 rfl (numsA .u8 (mulL lb (keyL 1) lc)) rfl 25 _ (Blk.at1 w7 zeroK 25) sizeKey HY.out (by rw [zeroK_size]; omega) (numsA_one _ _) ?_; intro w8 hb8 hu8 hz8; rw [splice_all _ _ 32 zeroK_size HY.out] at hb8; have Hy8 := Lib.hid hb8; have Hka8 := Lib.hid (hu8.blk (Hka7.out.alloc _) (show ¬ w.heap.size = w7.heap.size by omega)); have Hkb8 := Lib.hid (hu8.blk (Hkb7.out.alloc _) (show ¬ w.heap.size + 1 = w7.heap.size by omega)); have Hkc8 := Lib.hid (hu8.blk (Hkc7.out.alloc _) (show ¬ w.heap.size + 1 + 1 = w7.heap.size by omega)); have Hn8 := Lib.hid (hu8.blk (Hn7.out.alloc _) (show ¬ bo + 1 = w7.heap.size by omega)); have Hu8 := Lib.hid ((Hu7.out.alloc _).step hu8 (fun i hi h => by have := Hu7.out.size; omega)); clear hb8 hu8 hz8)
    clear Hka7 Hkb7 Hkc7 Ho7 Hn7 Hx7 Hu7
    dsimp only [Act.put]
    generalize w7.heap.size = bs at *
    refine wp_region_slots #[true, true, true, true, true, true, true, true, true, true, true, true, true, true, true, true, true, true, true, true, true, true, true, true] ([.val (.agg (numsA .u8 la)), .val (.agg (numsA .u8 lb)), .val (.agg (numsA .u8 (keyL 0))), .val (.agg (numsA .u8 (mulL la lb (keyL 0)))), .val (.agg (numsA .u8 lb)), .val (.agg (numsA .u8 la)), .val (.agg (numsA .u8 (keyL 0))), .val (.agg (numsA .u8 (mulL lb la (keyL 0)))), .val (.bool true), .val (.bool true), .val (.agg (numsA .u8 la)), .val (.agg (numsA .u8 (mulL lb (keyL 1) lc))), .val (.agg (numsA .u8 (keyL 0))), .val (.agg (numsA .u8 (mulL la (mulL lb (keyL 1) lc) (keyL 0)))), .val (.agg (numsA .u8 la)), .val (.agg (numsA .u8 lb)), .val (.agg (numsA .u8 la)), .val (.agg (numsA .u8 lc)), .val (.agg (numsA .u8 (keyL 0))), .val (.agg (numsA .u8 (mulL la lc (keyL 0)))), .val (.agg (numsA .u8 (mulL la lb (mulL la lc (keyL 0))))), .val (.bool true), .val (.bool true), .val (.bool true)] : List SP) (by kernel_rfl) (by kernel_rfl) (by kernel_rfl) ?_ ?_
    · intro i o listed an wn ho hls hst hun hdep hI K' hK'
      have hi : i < 24 := by
        have := idx_lt ho; simp only [List.size_toArray, List.length_cons, List.length_nil] at this; exact this
      have hcase : i = 0 ∨ i = 1 ∨ i = 2 ∨ i = 3 ∨ i = 4 ∨ i = 5 ∨ i = 6 ∨ i = 7 ∨ i = 8 ∨ i = 9 ∨ i = 10 ∨ i = 11 ∨ i = 12 ∨ i = 13 ∨ i = 14 ∨ i = 15 ∨ i = 16 ∨ i = 17 ∨ i = 18 ∨ i = 19 ∨ i = 20 ∨ i = 21 ∨ i = 22 ∨ i = 23 := by clear hls hst hun hdep hI hK' ho; omega
      rcases hcase with rfl | rfl | rfl | rfl | rfl | rfl | rfl | rfl | rfl | rfl | rfl | rfl | rfl | rfl | rfl | rfl | rfl | rfl | rfl | rfl | rfl | rfl | rfl | rfl
      · obtain rfl := Option.some.inj ho
        have hvp : an.eval (.tmp 3) = .pointer (some ⟨w.heap.size, 0, none⟩) := hI.old (t := 3) (by kernel_rfl) rfl
        exact hI.stepRead (by kernel_rfl) hls rfl rfl rfl (.agg (numsA .u8 la)) (fun hu => run_loadKey rfl hvp wn (hu.blk (Hka8.out) (fun h => h)) (HA.out)) rfl rfl hK'
      · obtain rfl := Option.some.inj ho
        have hvp : an.eval (.tmp 4) = .pointer (some ⟨w.heap.size + 1, 0, none⟩) := hI.old (t := 4) (by kernel_rfl) rfl
        exact hI.stepRead (by kernel_rfl) hls rfl rfl rfl (.agg (numsA .u8 lb)) (fun hu => run_loadKey rfl hvp wn (hu.blk (Hkb8.out) (fun h => h)) (HB.out)) rfl rfl hK'
      · obtain rfl := Option.some.inj ho
        have hvp : an.eval (.tmp 8) = .pointer (some ⟨bo + 1, 0, none⟩) := hI.old (t := 8) (by kernel_rfl) rfl
        exact hI.stepRead (by kernel_rfl) hls rfl rfl rfl (.agg (numsA .u8 (keyL 0))) (fun hu => run_loadKey rfl hvp wn (hu.blk (Hn8.out) (fun h => h)) (H0.out)) rfl rfl hK'
      · obtain rfl := Option.some.inj ho
        obtain ⟨vp, hvp, hsp⟩ := hI.have 0 _ 48 (.val (.agg (numsA .u8 la))) rfl rfl rfl (hdep ⟨0, .data⟩ (by simp) rfl)
        obtain rfl := hsp
        obtain ⟨vq, hvq, hsq⟩ := hI.have 1 _ 49 (.val (.agg (numsA .u8 lb))) rfl rfl rfl (hdep ⟨1, .data⟩ (by simp) rfl)
        obtain rfl := hsq
        obtain ⟨vr, hvr, hsr⟩ := hI.have 2 _ 50 (.val (.agg (numsA .u8 (keyL 0)))) rfl rfl rfl (hdep ⟨2, .data⟩ (by simp) rfl)
        obtain rfl := hsr
        exact hI.stepCall (by kernel_rfl) hls rfl rfl rfl 11 #[.tmp 48, .tmp 49, .tmp 50] _ rfl #[.agg (numsA .u8 la), .agg (numsA .u8 lb), .agg (numsA .u8 (keyL 0))] (by simp [eval_of hvp, eval_of hvq, eval_of hvr]) enterMulAdd (.val (.agg (numsA .u8 (mulL la lb (keyL 0))))) rfl rfl ((mulAdd_any la lb (keyL 0) _ (HT.out.upd (Hu8.out.drew.trans hI.upd) (fun h => h)) (Hla.out) (Hda.out) (Hlb.out) (Hdb.out) (keyL_length _) (keyL_digs (by omega))).mono fun _ _ h => ⟨_, h.1, rfl, h.2⟩) hK'
      · obtain rfl := Option.some.inj ho
        have hvp : an.eval (.tmp 4) = .pointer (some ⟨w.heap.size + 1, 0, none⟩) := hI.old (t := 4) (by kernel_rfl) rfl
        exact hI.stepRead (by kernel_rfl) hls rfl rfl rfl (.agg (numsA .u8 lb)) (fun hu => run_loadKey rfl hvp wn (hu.blk (Hkb8.out) (fun h => h)) (HB.out)) rfl rfl hK'
      · obtain rfl := Option.some.inj ho
        have hvp : an.eval (.tmp 3) = .pointer (some ⟨w.heap.size, 0, none⟩) := hI.old (t := 3) (by kernel_rfl) rfl
        exact hI.stepRead (by kernel_rfl) hls rfl rfl rfl (.agg (numsA .u8 la)) (fun hu => run_loadKey rfl hvp wn (hu.blk (Hka8.out) (fun h => h)) (HA.out)) rfl rfl hK'
      · obtain rfl := Option.some.inj ho
        have hvp : an.eval (.tmp 8) = .pointer (some ⟨bo + 1, 0, none⟩) := hI.old (t := 8) (by kernel_rfl) rfl
        exact hI.stepRead (by kernel_rfl) hls rfl rfl rfl (.agg (numsA .u8 (keyL 0))) (fun hu => run_loadKey rfl hvp wn (hu.blk (Hn8.out) (fun h => h)) (H0.out)) rfl rfl hK'
      · obtain rfl := Option.some.inj ho
        obtain ⟨vp, hvp, hsp⟩ := hI.have 4 _ 52 (.val (.agg (numsA .u8 lb))) rfl rfl rfl (hdep ⟨4, .data⟩ (by simp) rfl)
        obtain rfl := hsp
        obtain ⟨vq, hvq, hsq⟩ := hI.have 5 _ 53 (.val (.agg (numsA .u8 la))) rfl rfl rfl (hdep ⟨5, .data⟩ (by simp) rfl)
        obtain rfl := hsq
        obtain ⟨vr, hvr, hsr⟩ := hI.have 6 _ 54 (.val (.agg (numsA .u8 (keyL 0)))) rfl rfl rfl (hdep ⟨6, .data⟩ (by simp) rfl)
        obtain rfl := hsr
        exact hI.stepCall (by kernel_rfl) hls rfl rfl rfl 11 #[.tmp 52, .tmp 53, .tmp 54] _ rfl #[.agg (numsA .u8 lb), .agg (numsA .u8 la), .agg (numsA .u8 (keyL 0))] (by simp [eval_of hvp, eval_of hvq, eval_of hvr]) enterMulAdd (.val (.agg (numsA .u8 (mulL lb la (keyL 0))))) rfl rfl ((mulAdd_any lb la (keyL 0) _ (HT.out.upd (Hu8.out.drew.trans hI.upd) (fun h => h)) (Hlb.out) (Hdb.out) (Hla.out) (Hda.out) (keyL_length _) (keyL_digs (by omega))).mono fun _ _ h => ⟨_, h.1, rfl, h.2⟩) hK'
      · obtain rfl := Option.some.inj ho
        obtain ⟨vp, hvp, hsp⟩ := hI.have 3 _ 51 (.val (.agg (numsA .u8 (mulL la lb (keyL 0))))) rfl rfl rfl (hdep ⟨3, .data⟩ (by simp) rfl)
        obtain rfl := hsp
        obtain ⟨vq, hvq, hsq⟩ := hI.have 7 _ 55 (.val (.agg (numsA .u8 (mulL lb la (keyL 0))))) rfl rfl rfl (hdep ⟨7, .data⟩ (by simp) rfl)
        obtain rfl := hsq
        exact hI.stepPure (by kernel_rfl) hls rfl rfl rfl (.bool true) (run_eqlKey rfl (eval_of hvp) (eval_of hvq) (mulL_length _ _ _) (mulL_length _ _ _) (decide_eq_true (mulL_comm _ _ _)) wn) rfl rfl hK'
      · obtain rfl := Option.some.inj ho
        obtain ⟨vp, hvp, hsp⟩ := hI.have 8 _ 56 (.val (.bool true)) rfl rfl rfl (hdep ⟨8, .data⟩ (by simp) rfl)
        obtain rfl := hsp
        exact hI.stepPure (by kernel_rfl) hls rfl rfl rfl (.bool true) (by simp [execOp, (eval_of hvp)]) rfl rfl hK'
      · obtain rfl := Option.some.inj ho
        obtain ⟨vg, hvg, hsg⟩ := hI.have 9 _ 57 (.val (.bool true)) rfl rfl rfl (hdep ⟨9, .guard⟩ (by simp) rfl)
        obtain rfl := hsg
        have hvp : an.eval (.tmp 3) = .pointer (some ⟨w.heap.size, 0, none⟩) := hI.old (t := 3) (by kernel_rfl) rfl
        exact hI.stepRead (by kernel_rfl) hls rfl (wanted_of rfl rfl rfl hvg) rfl (.agg (numsA .u8 la)) (fun hu => run_loadKey rfl hvp wn (hu.blk (Hka8.out) (fun h => h)) (HA.out)) rfl rfl hK'
      · obtain rfl := Option.some.inj ho
        obtain ⟨vg, hvg, hsg⟩ := hI.have 9 _ 57 (.val (.bool true)) rfl rfl rfl (hdep ⟨9, .guard⟩ (by simp) rfl)
        obtain rfl := hsg
        have hvp : an.eval (.tmp 10) = .pointer (some ⟨bs, 0, none⟩) := hI.old (t := 10) (by kernel_rfl) rfl
        exact hI.stepRead (by kernel_rfl) hls rfl (wanted_of rfl rfl rfl hvg) rfl (.agg (numsA .u8 (mulL lb (keyL 1) lc))) (fun hu => run_loadKey rfl hvp wn (hu.blk (Hy8.out) (fun h => h)) (HY.out)) rfl rfl hK'
      · obtain rfl := Option.some.inj ho
        obtain ⟨vg, hvg, hsg⟩ := hI.have 9 _ 57 (.val (.bool true)) rfl rfl rfl (hdep ⟨9, .guard⟩ (by simp) rfl)
        obtain rfl := hsg
        have hvp : an.eval (.tmp 8) = .pointer (some ⟨bo + 1, 0, none⟩) := hI.old (t := 8) (by kernel_rfl) rfl
        exact hI.stepRead (by kernel_rfl) hls rfl (wanted_of rfl rfl rfl hvg) rfl (.agg (numsA .u8 (keyL 0))) (fun hu => run_loadKey rfl hvp wn (hu.blk (Hn8.out) (fun h => h)) (H0.out)) rfl rfl hK'
      · obtain rfl := Option.some.inj ho
        obtain ⟨vg, hvg, hsg⟩ := hI.have 9 _ 57 (.val (.bool true)) rfl rfl rfl (hdep ⟨9, .guard⟩ (by simp) rfl)
        obtain rfl := hsg
        obtain ⟨vp, hvp, hsp⟩ := hI.have 10 _ 58 (.val (.agg (numsA .u8 la))) rfl rfl rfl (hdep ⟨10, .data⟩ (by simp) rfl)
        obtain rfl := hsp
        obtain ⟨vq, hvq, hsq⟩ := hI.have 11 _ 59 (.val (.agg (numsA .u8 (mulL lb (keyL 1) lc)))) rfl rfl rfl (hdep ⟨11, .data⟩ (by simp) rfl)
        obtain rfl := hsq
        obtain ⟨vr, hvr, hsr⟩ := hI.have 12 _ 60 (.val (.agg (numsA .u8 (keyL 0)))) rfl rfl rfl (hdep ⟨12, .data⟩ (by simp) rfl)
        obtain rfl := hsr
        exact hI.stepCall (by kernel_rfl) hls rfl (wanted_of rfl rfl rfl hvg) rfl 11 #[.tmp 58, .tmp 59, .tmp 60] _ rfl #[.agg (numsA .u8 la), .agg (numsA .u8 (mulL lb (keyL 1) lc)), .agg (numsA .u8 (keyL 0))] (by simp [eval_of hvp, eval_of hvq, eval_of hvr]) enterMulAdd (.val (.agg (numsA .u8 (mulL la (mulL lb (keyL 1) lc) (keyL 0))))) rfl rfl ((mulAdd_any la (mulL lb (keyL 1) lc) (keyL 0) _ (HT.out.upd (Hu8.out.drew.trans hI.upd) (fun h => h)) (Hla.out) (Hda.out) (mulL_length _ _ _) (mulL_digs _ _ _) (keyL_length _) (keyL_digs (by omega))).mono fun _ _ h => ⟨_, h.1, rfl, h.2⟩) hK'
      · obtain rfl := Option.some.inj ho
        obtain ⟨vg, hvg, hsg⟩ := hI.have 9 _ 57 (.val (.bool true)) rfl rfl rfl (hdep ⟨9, .guard⟩ (by simp) rfl)
        obtain rfl := hsg
        have hvp : an.eval (.tmp 3) = .pointer (some ⟨w.heap.size, 0, none⟩) := hI.old (t := 3) (by kernel_rfl) rfl
        exact hI.stepRead (by kernel_rfl) hls rfl (wanted_of rfl rfl rfl hvg) rfl (.agg (numsA .u8 la)) (fun hu => run_loadKey rfl hvp wn (hu.blk (Hka8.out) (fun h => h)) (HA.out)) rfl rfl hK'
      · obtain rfl := Option.some.inj ho
        obtain ⟨vg, hvg, hsg⟩ := hI.have 9 _ 57 (.val (.bool true)) rfl rfl rfl (hdep ⟨9, .guard⟩ (by simp) rfl)
        obtain rfl := hsg
        have hvp : an.eval (.tmp 4) = .pointer (some ⟨w.heap.size + 1, 0, none⟩) := hI.old (t := 4) (by kernel_rfl) rfl
        exact hI.stepRead (by kernel_rfl) hls rfl (wanted_of rfl rfl rfl hvg) rfl (.agg (numsA .u8 lb)) (fun hu => run_loadKey rfl hvp wn (hu.blk (Hkb8.out) (fun h => h)) (HB.out)) rfl rfl hK'
      · obtain rfl := Option.some.inj ho
        obtain ⟨vg, hvg, hsg⟩ := hI.have 9 _ 57 (.val (.bool true)) rfl rfl rfl (hdep ⟨9, .guard⟩ (by simp) rfl)
        obtain rfl := hsg
        have hvp : an.eval (.tmp 3) = .pointer (some ⟨w.heap.size, 0, none⟩) := hI.old (t := 3) (by kernel_rfl) rfl
        exact hI.stepRead (by kernel_rfl) hls rfl (wanted_of rfl rfl rfl hvg) rfl (.agg (numsA .u8 la)) (fun hu => run_loadKey rfl hvp wn (hu.blk (Hka8.out) (fun h => h)) (HA.out)) rfl rfl hK'
      · obtain rfl := Option.some.inj ho
        obtain ⟨vg, hvg, hsg⟩ := hI.have 9 _ 57 (.val (.bool true)) rfl rfl rfl (hdep ⟨9, .guard⟩ (by simp) rfl)
        obtain rfl := hsg
        have hvp : an.eval (.tmp 5) = .pointer (some ⟨w.heap.size + 1 + 1, 0, none⟩) := hI.old (t := 5) (by kernel_rfl) rfl
        exact hI.stepRead (by kernel_rfl) hls rfl (wanted_of rfl rfl rfl hvg) rfl (.agg (numsA .u8 lc)) (fun hu => run_loadKey rfl hvp wn (hu.blk (Hkc8.out) (fun h => h)) (HC.out)) rfl rfl hK'
      · obtain rfl := Option.some.inj ho
        obtain ⟨vg, hvg, hsg⟩ := hI.have 9 _ 57 (.val (.bool true)) rfl rfl rfl (hdep ⟨9, .guard⟩ (by simp) rfl)
        obtain rfl := hsg
        have hvp : an.eval (.tmp 8) = .pointer (some ⟨bo + 1, 0, none⟩) := hI.old (t := 8) (by kernel_rfl) rfl
        exact hI.stepRead (by kernel_rfl) hls rfl (wanted_of rfl rfl rfl hvg) rfl (.agg (numsA .u8 (keyL 0))) (fun hu => run_loadKey rfl hvp wn (hu.blk (Hn8.out) (fun h => h)) (H0.out)) rfl rfl hK'
      · obtain rfl := Option.some.inj ho
        obtain ⟨vg, hvg, hsg⟩ := hI.have 9 _ 57 (.val (.bool true)) rfl rfl rfl (hdep ⟨9, .guard⟩ (by simp) rfl)
        obtain rfl := hsg
        obtain ⟨vp, hvp, hsp⟩ := hI.have 16 _ 64 (.val (.agg (numsA .u8 la))) rfl rfl rfl (hdep ⟨16, .data⟩ (by simp) rfl)
        obtain rfl := hsp
        obtain ⟨vq, hvq, hsq⟩ := hI.have 17 _ 65 (.val (.agg (numsA .u8 lc))) rfl rfl rfl (hdep ⟨17, .data⟩ (by simp) rfl)
        obtain rfl := hsq
        obtain ⟨vr, hvr, hsr⟩ := hI.have 18 _ 66 (.val (.agg (numsA .u8 (keyL 0)))) rfl rfl rfl (hdep ⟨18, .data⟩ (by simp) rfl)
        obtain rfl := hsr
        exact hI.stepCall (by kernel_rfl) hls rfl (wanted_of rfl rfl rfl hvg) rfl 11 #[.tmp 64, .tmp 65, .tmp 66] _ rfl #[.agg (numsA .u8 la), .agg (numsA .u8 lc), .agg (numsA .u8 (keyL 0))] (by simp [eval_of hvp, eval_of hvq, eval_of hvr]) enterMulAdd (.val (.agg (numsA .u8 (mulL la lc (keyL 0))))) rfl rfl ((mulAdd_any la lc (keyL 0) _ (HT.out.upd (Hu8.out.drew.trans hI.upd) (fun h => h)) (Hla.out) (Hda.out) (Hlc.out) (Hdc.out) (keyL_length _) (keyL_digs (by omega))).mono fun _ _ h => ⟨_, h.1, rfl, h.2⟩) hK'
      · obtain rfl := Option.some.inj ho
        obtain ⟨vg, hvg, hsg⟩ := hI.have 9 _ 57 (.val (.bool true)) rfl rfl rfl (hdep ⟨9, .guard⟩ (by simp) rfl)
        obtain rfl := hsg
        obtain ⟨vp, hvp, hsp⟩ := hI.have 14 _ 62 (.val (.agg (numsA .u8 la))) rfl rfl rfl (hdep ⟨14, .data⟩ (by simp) rfl)
        obtain rfl := hsp
        obtain ⟨vq, hvq, hsq⟩ := hI.have 15 _ 63 (.val (.agg (numsA .u8 lb))) rfl rfl rfl (hdep ⟨15, .data⟩ (by simp) rfl)
        obtain rfl := hsq
        obtain ⟨vr, hvr, hsr⟩ := hI.have 19 _ 67 (.val (.agg (numsA .u8 (mulL la lc (keyL 0))))) rfl rfl rfl (hdep ⟨19, .data⟩ (by simp) rfl)
        obtain rfl := hsr
        exact hI.stepCall (by kernel_rfl) hls rfl (wanted_of rfl rfl rfl hvg) rfl 11 #[.tmp 62, .tmp 63, .tmp 67] _ rfl #[.agg (numsA .u8 la), .agg (numsA .u8 lb), .agg (numsA .u8 (mulL la lc (keyL 0)))] (by simp [eval_of hvp, eval_of hvq, eval_of hvr]) enterMulAdd (.val (.agg (numsA .u8 (mulL la lb (mulL la lc (keyL 0)))))) rfl rfl ((mulAdd_any la lb (mulL la lc (keyL 0)) _ (HT.out.upd (Hu8.out.drew.trans hI.upd) (fun h => h)) (Hla.out) (Hda.out) (Hlb.out) (Hdb.out) (mulL_length _ _ _) (mulL_digs _ _ _)).mono fun _ _ h => ⟨_, h.1, rfl, h.2⟩) hK'
      · obtain rfl := Option.some.inj ho
        obtain ⟨vg, hvg, hsg⟩ := hI.have 9 _ 57 (.val (.bool true)) rfl rfl rfl (hdep ⟨9, .guard⟩ (by simp) rfl)
        obtain rfl := hsg
        obtain ⟨vp, hvp, hsp⟩ := hI.have 13 _ 61 (.val (.agg (numsA .u8 (mulL la (mulL lb (keyL 1) lc) (keyL 0))))) rfl rfl rfl (hdep ⟨13, .data⟩ (by simp) rfl)
        obtain rfl := hsp
        obtain ⟨vq, hvq, hsq⟩ := hI.have 20 _ 68 (.val (.agg (numsA .u8 (mulL la lb (mulL la lc (keyL 0)))))) rfl rfl rfl (hdep ⟨20, .data⟩ (by simp) rfl)
        obtain rfl := hsq
        exact hI.stepPure (by kernel_rfl) hls rfl (wanted_of rfl rfl rfl hvg) rfl (.bool true) (run_eqlKey rfl (eval_of hvp) (eval_of hvq) (mulL_length _ _ _) (mulL_length _ _ _) (decide_eq_true (mulL_sum _ _ _)) wn) rfl rfl hK'
      · obtain rfl := Option.some.inj ho
        obtain ⟨vp, hvp, hsp⟩ := hI.have 9 _ 57 (.val (.bool true)) rfl rfl rfl (hdep ⟨9, .data⟩ (by simp) rfl)
        obtain rfl := hsp
        obtain ⟨vq, hvq, hsq⟩ := hI.have 21 _ 69 (.val (.bool true)) rfl rfl rfl (hdep ⟨21, .data⟩ (by simp) rfl)
        obtain rfl := hsq
        exact hI.stepPure (by kernel_rfl) hls rfl rfl rfl (.bool true) (by simp [execOp, (eval_of hvp), asBool, (eval_of hvq)]) rfl rfl hK'
      · obtain rfl := Option.some.inj ho
        obtain ⟨vp, hvp, hsp⟩ := hI.have 22 _ 70 (.val (.bool true)) rfl rfl rfl (hdep ⟨22, .data⟩ (by simp) rfl)
        obtain rfl := hsp
        exact hI.stepPure (by kernel_rfl) hls rfl rfl rfl (.bool true) (by simp [execOp, (eval_of hvp)]) rfl rfl hK'
    · intro fuel an wn hf hI
      obtain ⟨vz0, hvz0, hsz0⟩ := hI.have 0 _ 48 (.val (.agg (numsA .u8 la))) rfl rfl rfl rfl
      obtain rfl := hsz0
      obtain ⟨vz1, hvz1, hsz1⟩ := hI.have 1 _ 49 (.val (.agg (numsA .u8 lb))) rfl rfl rfl rfl
      obtain rfl := hsz1
      obtain ⟨vz2, hvz2, hsz2⟩ := hI.have 2 _ 50 (.val (.agg (numsA .u8 (keyL 0)))) rfl rfl rfl rfl
      obtain rfl := hsz2
      obtain ⟨vz3, hvz3, hsz3⟩ := hI.have 3 _ 51 (.val (.agg (numsA .u8 (mulL la lb (keyL 0))))) rfl rfl rfl rfl
      obtain rfl := hsz3
      obtain ⟨vz4, hvz4, hsz4⟩ := hI.have 4 _ 52 (.val (.agg (numsA .u8 lb))) rfl rfl rfl rfl
      obtain rfl := hsz4
      obtain ⟨vz5, hvz5, hsz5⟩ := hI.have 5 _ 53 (.val (.agg (numsA .u8 la))) rfl rfl rfl rfl
      obtain rfl := hsz5
      obtain ⟨vz6, hvz6, hsz6⟩ := hI.have 6 _ 54 (.val (.agg (numsA .u8 (keyL 0)))) rfl rfl rfl rfl
      obtain rfl := hsz6
      obtain ⟨vz7, hvz7, hsz7⟩ := hI.have 7 _ 55 (.val (.agg (numsA .u8 (mulL lb la (keyL 0))))) rfl rfl rfl rfl
      obtain rfl := hsz7
      obtain ⟨vz8, hvz8, hsz8⟩ := hI.have 8 _ 56 (.val (.bool true)) rfl rfl rfl rfl
      obtain rfl := hsz8
      obtain ⟨vz9, hvz9, hsz9⟩ := hI.have 9 _ 57 (.val (.bool true)) rfl rfl rfl rfl
      obtain rfl := hsz9
      obtain ⟨vz10, hvz10, hsz10⟩ := hI.have 10 _ 58 (.val (.agg (numsA .u8 la))) rfl rfl rfl rfl
      obtain rfl := hsz10
      obtain ⟨vz11, hvz11, hsz11⟩ := hI.have 11 _ 59 (.val (.agg (numsA .u8 (mulL lb (keyL 1) lc)))) rfl rfl rfl rfl
      obtain rfl := hsz11
      obtain ⟨vz12, hvz12, hsz12⟩ := hI.have 12 _ 60 (.val (.agg (numsA .u8 (keyL 0)))) rfl rfl rfl rfl
      obtain rfl := hsz12
      obtain ⟨vz13, hvz13, hsz13⟩ := hI.have 13 _ 61 (.val (.agg (numsA .u8 (mulL la (mulL lb (keyL 1) lc) (keyL 0))))) rfl rfl rfl rfl
      obtain rfl := hsz13
      obtain ⟨vz14, hvz14, hsz14⟩ := hI.have 14 _ 62 (.val (.agg (numsA .u8 la))) rfl rfl rfl rfl
      obtain rfl := hsz14
      obtain ⟨vz15, hvz15, hsz15⟩ := hI.have 15 _ 63 (.val (.agg (numsA .u8 lb))) rfl rfl rfl rfl
      obtain rfl := hsz15
      obtain ⟨vz16, hvz16, hsz16⟩ := hI.have 16 _ 64 (.val (.agg (numsA .u8 la))) rfl rfl rfl rfl
      obtain rfl := hsz16
      obtain ⟨vz17, hvz17, hsz17⟩ := hI.have 17 _ 65 (.val (.agg (numsA .u8 lc))) rfl rfl rfl rfl
      obtain rfl := hsz17
      obtain ⟨vz18, hvz18, hsz18⟩ := hI.have 18 _ 66 (.val (.agg (numsA .u8 (keyL 0)))) rfl rfl rfl rfl
      obtain rfl := hsz18
      obtain ⟨vz19, hvz19, hsz19⟩ := hI.have 19 _ 67 (.val (.agg (numsA .u8 (mulL la lc (keyL 0))))) rfl rfl rfl rfl
      obtain rfl := hsz19
      obtain ⟨vz20, hvz20, hsz20⟩ := hI.have 20 _ 68 (.val (.agg (numsA .u8 (mulL la lb (mulL la lc (keyL 0)))))) rfl rfl rfl rfl
      obtain rfl := hsz20
      obtain ⟨vz21, hvz21, hsz21⟩ := hI.have 21 _ 69 (.val (.bool true)) rfl rfl rfl rfl
      obtain rfl := hsz21
      obtain ⟨vz22, hvz22, hsz22⟩ := hI.have 22 _ 70 (.val (.bool true)) rfl rfl rfl rfl
      obtain rfl := hsz22
      obtain ⟨vz23, hvz23, hsz23⟩ := hI.have 23 _ 6 (.val (.bool true)) rfl rfl rfl rfl
      obtain rfl := hsz23
      have hupd := hI.upd
      have ha := hI.act [(48, .agg (numsA .u8 la)), (49, .agg (numsA .u8 lb)), (50, .agg (numsA .u8 (keyL 0))), (51, .agg (numsA .u8 (mulL la lb (keyL 0)))), (52, .agg (numsA .u8 lb)), (53, .agg (numsA .u8 la)), (54, .agg (numsA .u8 (keyL 0))), (55, .agg (numsA .u8 (mulL lb la (keyL 0)))), (56, .bool true), (57, .bool true), (58, .agg (numsA .u8 la)), (59, .agg (numsA .u8 (mulL lb (keyL 1) lc))), (60, .agg (numsA .u8 (keyL 0))), (61, .agg (numsA .u8 (mulL la (mulL lb (keyL 1) lc) (keyL 0)))), (62, .agg (numsA .u8 la)), (63, .agg (numsA .u8 lb)), (64, .agg (numsA .u8 la)), (65, .agg (numsA .u8 lc)), (66, .agg (numsA .u8 (keyL 0))), (67, .agg (numsA .u8 (mulL la lc (keyL 0)))), (68, .agg (numsA .u8 (mulL la lb (mulL la lc (keyL 0))))), (69, .bool true), (70, .bool true), (6, .bool true)] (by simp [hvz0, hvz1, hvz2, hvz3, hvz4, hvz5, hvz6, hvz7, hvz8, hvz9, hvz10, hvz11, hvz12, hvz13, hvz14, hvz15, hvz16, hvz17, hvz18, hvz19, hvz20, hvz21, hvz22, hvz23]) (by kernel_rfl)
      clear hI hvz0 hvz1 hvz2 hvz3 hvz4 hvz5 hvz6 hvz7 hvz8 hvz9 hvz10 hvz11 hvz12 hvz13 hvz14 hvz15 hvz16 hvz17 hvz18 hvz19 hvz20 hvz21 hvz22 hvz23
      subst ha
      simp only [List.foldl_cons, List.foldl_nil, List.setIfInBounds_toArray, List.set_cons_zero, List.set_cons_succ]
      refine wpAny_done (by kernel_rfl) ?_ _
      go_wp2
      go_ret
      exact ⟨rfl, Hu8.out.drew.trans hupd⟩
end Go.Proofs.YtmfjlicchgacmaaDoor
