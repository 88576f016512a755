/-
  The walk of ScalarClamps.
-/
import Derived.Test.YtmfjlicchgacmaaDoorOps
namespace Go.Proofs.YtmfjlicchgacmaaDoor
open Go.RowKit

theorem enterClamp (vs : Array Value) (w : World) : (callFunc 15 vs).run Tryd.prog w = .ok (.enter 15 vs) w := run_enter Tryd.func15 (by kernel_rfl) (by kernel_rfl) vs w
theorem clamp_facts {l : List Int} (hl : l.length = 32) (hd : Digs 256 l) : (clampL l).getD 0 0 = l.getD 0 0 - l.getD 0 0 % 8 ∧ (clampL l).getD 31 0 = l.getD 31 0 % 64 + 64 ∧ ∀ j, 1 ≤ j → j < 31 → (clampL l).getD j 0 = l.getD j 0 := by
  unfold clampL
  refine ⟨?_, ?_, fun j h0 h1 => ?_⟩
  · rw [getD_set_ne _ _ _ _ (by omega), getD_set_eq _ _ _ (by omega)]
  · rw [getD_set_eq _ _ _ (by rw [List.length_set]; omega)]
  · rw [getD_set_ne _ _ _ _ (by omega), getD_set_ne _ _ _ _ (by omega)]
theorem clamp_twice {l : List Int} (hl : l.length = 32) (hd : Digs 256 l) : clampL (clampL l) = clampL l := by
  obtain ⟨h0, h1, h2⟩ := clamp_facts hl hd
  obtain ⟨g0, g1, g2⟩ := clamp_facts (l := clampL l) (by rw [clampL_length]; exact hl) (clampL_digs hd)
  have b0 := hd.get (B := 256) (by omega) 0
  have b1 := hd.get (B := 256) (by omega) 31
  refine list_ext_getD (by rw [clampL_length]) (fun j hj => ?_)
  rw [clampL_length, clampL_length, hl] at hj
  by_cases e0 : j = 0
  · subst e0; rw [g0, h0]; omega
  by_cases e1 : j = 31
  · subst e1; rw [g1, h1]; omega
  exact g2 j (by omega) (by omega)
set_option maxRecDepth 100000 in
set_option maxHeartbeats 1600000 in
theorem scalarClamps_any (l : List Int) (w : World) (hT : Tab w) (hl : l.length = 32) (hd : Digs 256 l) :
    Calls Tryd.prog 6 #[.agg (numsA .u8 l)] w fun e w' => e = .returned (.bool true) ∧ Upd (fun _ => False) w w' := by
  have HT := Lib.hid hT
  have Hl := Lib.hid hl
  have Hd := Lib.hid hd
  have hz := zeroK_run
  have HA : Hid ((numsA .u8 l).size = 32) := by show _ = _; rw [numsA_size]; exact hl
  have HS : Hid ((numsA .u8 (clampL l)).size = 32) := by show _ = _; rw [numsA_size, clampL_length]; exact hl
  obtain ⟨f0, f1, f2⟩ := clamp_facts hl hd
  have b0 := hd.get (B := 256) (by omega) 0
  have b1 := hd.get (B := 256) (by omega) 31
  have H2 := Lib.hid f2
  clear hT hl hd f2
  go_enter Tryd.func6, Tryd.ntmps6
  go_wp2_with fail
  refine (counts_any _ (HT.out.upd ((Upd.refl (fun _ => False) w).alloc _) (fun h => h))).mono ?_
  rintro e w1 ⟨rfl, hu⟩
  have Hk := Lib.hid (hu.blk (Blk.at1 w (numsA .u8 l) 25) (fun h => h))
  have Hu1 := Lib.hid (((Upd.refl (fun _ => False) w).alloc _).trans hu)
  clear hu
  go_wp2_with (refine wpList_loadBlk rfl 25 _ rfl w.heap.size 0 32 rfl 25 (numsA .u8 l) _ Hk.out Tryd.underlying25 rfl sizeKey (by rw [HA.out]; omega) ?_; rw [extract_all _ _ HA.out])
  refine (clamp_any l _ Hl.out Hd.out).mono ?_
  rintro e w2 ⟨rfl, hu⟩
  have Hk2 := Lib.hid (hu.blk Hk.out (fun h => h))
  have Hu2 := Lib.hid (Hu1.out.trans hu)
  have hlt2 := Hk2.out.lt
  clear hu Hk Hu1
  go_wp2_with (refine wpList_storeBlk2 rfl 25 _ _ rfl w2.heap.size 0 32 rfl (numsA .u8 (clampL l)) rfl 25 _ (Blk.at1 w2 zeroK 25) sizeKey HS.out (by rw [zeroK_size]; omega) (numsA_one _ _) ?_; intro w3 hb3 hu3 hz3; rw [splice_all _ _ 32 zeroK_size HS.out] at hb3; have Hc := Lib.hid hb3; have Hk3 := Lib.hid (hu3.blk (Hk2.out.alloc _) (show ¬ w.heap.size = w2.heap.size by omega)); have Hu3 := Lib.hid ((Hu2.out.alloc _).step hu3 (fun i hi h => by omega)); clear hb3 hu3 hz3)
  have hne : w.heap.size ≠ w2.heap.size := by omega
  have Hs2 := Lib.hid Hu2.out.size
  generalize w2.heap.size = bc at *
  clear Hk2 Hu2
  have c0 : w3.cell? ⟨bc, 0, none⟩ = some (.int .u8 ((clampL l).getD 0 0)) := by rw [Hc.out.cell, numsA_get _ _ _ (by rw [clampL_length, Hl.out]; omega)]
  have c31 : w3.cell? ⟨bc, 31, none⟩ = some (.int .u8 ((clampL l).getD 31 0)) := by rw [Hc.out.cell, numsA_get _ _ _ (by rw [clampL_length, Hl.out]; omega)]
  have k0 : w3.cell? ⟨w.heap.size, 0, none⟩ = some (.int .u8 (l.getD 0 0)) := by rw [Hk3.out.cell, numsA_get _ _ _ (by rw [Hl.out]; omega)]
  have k31 : w3.cell? ⟨w.heap.size, 31, none⟩ = some (.int .u8 (l.getD 31 0)) := by rw [Hk3.out.cell, numsA_get _ _ _ (by rw [Hl.out]; omega)]
  generalize (clampL l).getD 0 0 = y0 at *
  generalize (clampL l).getD 31 0 = y31 at *
  generalize l.getD 0 0 = x0 at *
  generalize l.getD 31 0 = x31 at *
  dsimp only [Act.put]
  have hq2 : Int.tmod y0 8 = (y0 % 8) := by rw [Int.tmod_eq_emod_of_nonneg (by omega)]
  have hq3 : decide (((y0 % 8 : Int) ≠ 0 : Prop)) = false := decide_eq_false (by omega)
  have hq7 : decide (((y31 : Int) < 64 : Prop)) = false := decide_eq_false (by omega)
  have hq12 : decide (((127 : Int) < y31 : Prop)) = false := decide_eq_false (by omega)
  have hq27 : Int.tmod x0 8 = (x0 % 8) := by rw [Int.tmod_eq_emod_of_nonneg (by omega)]
  have hq28 : IntKind.wrap .u8 (x0 - (x0 % 8)) = (x0 - (x0 % 8)) := IntWalk.u8_in _ (by omega)
  have hq29 : decide (((y0 : Int) ≠ (x0 - (x0 % 8)) : Prop)) = false := decide_eq_false (by omega)
  have hq34 : Int.tmod y31 64 = (y31 % 64) := by rw [Int.tmod_eq_emod_of_nonneg (by omega)]
  have hq37 : Int.tmod x31 64 = (x31 % 64) := by rw [Int.tmod_eq_emod_of_nonneg (by omega)]
  have hq38 : decide (((y31 % 64 : Int) ≠ (x31 % 64) : Prop)) = false := decide_eq_false (by omega)
  refine wp_region_slots #[true, true, true, true, true, true, true, true, true, true, true, true, true, true, true, true, true, true, true, true, true, true, true, true, true, true, true, true, true, true, true, true, true, true, true, true, true, true, true, true] ([.val (.pointer (some ⟨bc, 0, none⟩)), .val (.int .u8 y0), .val (.int .u8 (y0 % 8)), .val (.bool false), .val (.bool false), .val (.pointer (some ⟨bc, 31, none⟩)), .val (.int .u8 y31), .val (.bool false), .val (.bool false), .val (.bool false), .val (.pointer (some ⟨bc, 31, none⟩)), .val (.int .u8 y31), .val (.bool false), .val (.bool false), .val (.bool false), .val (.agg (numsA .u8 (clampL l))), .val (.agg (numsA .u8 (clampL (clampL l)))), .val (.agg (numsA .u8 (clampL l))), .val (.bool false), .val (.bool false), .val (.bool false), .val (.pointer (some ⟨bc, 0, none⟩)), .val (.int .u8 y0), .val (.pointer (some ⟨w.heap.size, 0, none⟩)), .val (.int .u8 x0), .val (.pointer (some ⟨w.heap.size, 0, none⟩)), .val (.int .u8 x0), .val (.int .u8 (x0 % 8)), .val (.int .u8 (x0 - (x0 % 8))), .val (.bool false), .val (.bool false), .val (.bool false), .val (.pointer (some ⟨bc, 31, none⟩)), .val (.int .u8 y31), .val (.int .u8 (y31 % 64)), .val (.pointer (some ⟨w.heap.size, 31, none⟩)), .val (.int .u8 x31), .val (.int .u8 (x31 % 64)), .val (.bool false), .val (.bool false)] : List SP) (by kernel_rfl) (by kernel_rfl) (by kernel_rfl) ?_ ?_
  · intro i o listed an wn ho hls hst hun hdep hI K' hK'
    have hi : i < 40 := by
      have := idx_lt ho; simp only [List.size_toArray, List.length_cons, List.length_nil] at this; exact this
    have hcase : i = 0 ∨ i = 1 ∨ i = 2 ∨ i = 3 ∨ i = 4 ∨ i = 5 ∨ i = 6 ∨ i = 7 ∨ i = 8 ∨ i = 9 ∨ i = 10 ∨ i = 11 ∨ i = 12 ∨ i = 13 ∨ i = 14 ∨ i = 15 ∨ i = 16 ∨ i = 17 ∨ i = 18 ∨ i = 19 ∨ i = 20 ∨ i = 21 ∨ i = 22 ∨ i = 23 ∨ i = 24 ∨ i = 25 ∨ i = 26 ∨ i = 27 ∨ i = 28 ∨ i = 29 ∨ i = 30 ∨ i = 31 ∨ i = 32 ∨ i = 33 ∨ i = 34 ∨ i = 35 ∨ i = 36 ∨ i = 37 ∨ i = 38 ∨ i = 39 := by clear hls hst hun hdep hI hK' ho; omega
    rcases hcase with rfl | rfl | rfl | rfl | rfl | rfl | rfl | rfl | rfl | rfl | rfl | rfl | rfl | rfl | rfl | rfl | rfl | rfl | rfl | rfl | rfl | rfl | rfl | rfl | rfl | rfl | rfl | rfl | rfl | rfl | rfl | rfl | rfl | rfl | rfl | rfl | rfl | rfl | rfl | rfl
    · obtain rfl := Option.some.inj ho
      have hvp : an.eval (.tmp 3) = .pointer (some ⟨bc, 0, none⟩) := hI.old (t := 3) (by kernel_rfl) rfl
      exact hI.stepPure (by kernel_rfl) hls rfl rfl rfl (.pointer (some ⟨bc, 0, none⟩)) (run_adr (off := 0) (i := 0) rfl Tryd.underlying25 size5 hvp rfl (by decide) wn) rfl rfl hK'
    · obtain rfl := Option.some.inj ho
      obtain ⟨vp, hvp, hsp⟩ := hI.have 0 _ 9 (.val (.pointer (some ⟨bc, 0, none⟩))) rfl rfl rfl (hdep ⟨0, .data⟩ (by simp) rfl)
      obtain rfl := hsp
      exact hI.stepRead (by kernel_rfl) hls rfl rfl rfl (.int .u8 y0) (fun hu => run_cell rfl Tryd.underlying5 (eval_of hvp) wn (hu.cell (c0) (fun h => h))) rfl rfl hK'
    · obtain rfl := Option.some.inj ho
      obtain ⟨vp, hvp, hsp⟩ := hI.have 1 _ 10 (.val (.int .u8 y0)) rfl rfl rfl (hdep ⟨1, .data⟩ (by simp) rfl)
      obtain rfl := hsp
      exact hI.stepPure (by kernel_rfl) hls rfl rfl rfl (.int .u8 (y0 % 8)) (run_rem rfl (eval_of hvp) rfl (by decide) hq2 wn) rfl rfl hK'
    · obtain rfl := Option.some.inj ho
      obtain ⟨vp, hvp, hsp⟩ := hI.have 2 _ 11 (.val (.int .u8 (y0 % 8))) rfl rfl rfl (hdep ⟨2, .data⟩ (by simp) rfl)
      obtain rfl := hsp
      exact hI.stepPure (by kernel_rfl) hls rfl rfl rfl (.bool false) (run_neq rfl (eval_of hvp) rfl hq3 wn) rfl rfl hK'
    · obtain rfl := Option.some.inj ho
      obtain ⟨vp, hvp, hsp⟩ := hI.have 3 _ 12 (.val (.bool false)) rfl rfl rfl (hdep ⟨3, .data⟩ (by simp) rfl)
      obtain rfl := hsp
      exact hI.stepPure (by kernel_rfl) hls rfl rfl rfl (.bool false) (by simp [execOp, (eval_of hvp)]) rfl rfl hK'
    · obtain rfl := Option.some.inj ho
      obtain ⟨vg, hvg, hsg⟩ := hI.have 4 _ 13 (.val (.bool false)) rfl rfl rfl (hdep ⟨4, .guard⟩ (by simp) rfl)
      obtain rfl := hsg
      have hvp : an.eval (.tmp 3) = .pointer (some ⟨bc, 0, none⟩) := hI.old (t := 3) (by kernel_rfl) rfl
      exact hI.stepPure (by kernel_rfl) hls rfl (wanted_of rfl rfl rfl hvg) rfl (.pointer (some ⟨bc, 31, none⟩)) (run_adr (off := 0) (i := 31) rfl Tryd.underlying25 size5 hvp rfl (by decide) wn) rfl rfl hK'
    · obtain rfl := Option.some.inj ho
      obtain ⟨vg, hvg, hsg⟩ := hI.have 4 _ 13 (.val (.bool false)) rfl rfl rfl (hdep ⟨4, .guard⟩ (by simp) rfl)
      obtain rfl := hsg
      obtain ⟨vp, hvp, hsp⟩ := hI.have 5 _ 14 (.val (.pointer (some ⟨bc, 31, none⟩))) rfl rfl rfl (hdep ⟨5, .data⟩ (by simp) rfl)
      obtain rfl := hsp
      exact hI.stepRead (by kernel_rfl) hls rfl (wanted_of rfl rfl rfl hvg) rfl (.int .u8 y31) (fun hu => run_cell rfl Tryd.underlying5 (eval_of hvp) wn (hu.cell (c31) (fun h => h))) rfl rfl hK'
    · obtain rfl := Option.some.inj ho
      obtain ⟨vg, hvg, hsg⟩ := hI.have 4 _ 13 (.val (.bool false)) rfl rfl rfl (hdep ⟨4, .guard⟩ (by simp) rfl)
      obtain rfl := hsg
      obtain ⟨vp, hvp, hsp⟩ := hI.have 6 _ 15 (.val (.int .u8 y31)) rfl rfl rfl (hdep ⟨6, .data⟩ (by simp) rfl)
      obtain rfl := hsp
      exact hI.stepPure (by kernel_rfl) hls rfl (wanted_of rfl rfl rfl hvg) rfl (.bool false) (run_lss rfl (eval_of hvp) rfl hq7 wn) rfl rfl hK'
    · obtain rfl := Option.some.inj ho
      obtain ⟨vp, hvp, hsp⟩ := hI.have 4 _ 13 (.val (.bool false)) rfl rfl rfl (hdep ⟨4, .data⟩ (by simp) rfl)
      obtain rfl := hsp
      obtain ⟨vq, hvq, hsq⟩ := hI.have 7 _ 16 (.val (.bool false)) rfl rfl rfl (hdep ⟨7, .data⟩ (by simp) rfl)
      obtain rfl := hsq
      exact hI.stepPure (by kernel_rfl) hls rfl rfl rfl (.bool false) (by simp [execOp, (eval_of hvp), asBool, (eval_of hvq)]) rfl rfl hK'
    · obtain rfl := Option.some.inj ho
      obtain ⟨vp, hvp, hsp⟩ := hI.have 8 _ 17 (.val (.bool false)) rfl rfl rfl (hdep ⟨8, .data⟩ (by simp) rfl)
      obtain rfl := hsp
      exact hI.stepPure (by kernel_rfl) hls rfl rfl rfl (.bool false) (by simp [execOp, (eval_of hvp)]) rfl rfl hK'
    · obtain rfl := Option.some.inj ho
      obtain ⟨vg, hvg, hsg⟩ := hI.have 9 _ 18 (.val (.bool false)) rfl rfl rfl (hdep ⟨9, .guard⟩ (by simp) rfl)
      obtain rfl := hsg
      have hvp : an.eval (.tmp 3) = .pointer (some ⟨bc, 0, none⟩) := hI.old (t := 3) (by kernel_rfl) rfl
      exact hI.stepPure (by kernel_rfl) hls rfl (wanted_of rfl rfl rfl hvg) rfl (.pointer (some ⟨bc, 31, none⟩)) (run_adr (off := 0) (i := 31) rfl Tryd.underlying25 size5 hvp rfl (by decide) wn) rfl rfl hK'
    · obtain rfl := Option.some.inj ho
      obtain ⟨vg, hvg, hsg⟩ := hI.have 9 _ 18 (.val (.bool false)) rfl rfl rfl (hdep ⟨9, .guard⟩ (by simp) rfl)
      obtain rfl := hsg
      obtain ⟨vp, hvp, hsp⟩ := hI.have 10 _ 19 (.val (.pointer (some ⟨bc, 31, none⟩))) rfl rfl rfl (hdep ⟨10, .data⟩ (by simp) rfl)
      obtain rfl := hsp
      exact hI.stepRead (by kernel_rfl) hls rfl (wanted_of rfl rfl rfl hvg) rfl (.int .u8 y31) (fun hu => run_cell rfl Tryd.underlying5 (eval_of hvp) wn (hu.cell (c31) (fun h => h))) rfl rfl hK'
    · obtain rfl := Option.some.inj ho
      obtain ⟨vg, hvg, hsg⟩ := hI.have 9 _ 18 (.val (.bool false)) rfl rfl rfl (hdep ⟨9, .guard⟩ (by simp) rfl)
      obtain rfl := hsg
      obtain ⟨vp, hvp, hsp⟩ := hI.have 11 _ 20 (.val (.int .u8 y31)) rfl rfl rfl (hdep ⟨11, .data⟩ (by simp) rfl)
      obtain rfl := hsp
      exact hI.stepPure (by kernel_rfl) hls rfl (wanted_of rfl rfl rfl hvg) rfl (.bool false) (run_gtr rfl (eval_of hvp) rfl hq12 wn) rfl rfl hK'
    · obtain rfl := Option.some.inj ho
      obtain ⟨vp, hvp, hsp⟩ := hI.have 9 _ 18 (.val (.bool false)) rfl rfl rfl (hdep ⟨9, .data⟩ (by simp) rfl)
      obtain rfl := hsp
      obtain ⟨vq, hvq, hsq⟩ := hI.have 12 _ 21 (.val (.bool false)) rfl rfl rfl (hdep ⟨12, .data⟩ (by simp) rfl)
      obtain rfl := hsq
      exact hI.stepPure (by kernel_rfl) hls rfl rfl rfl (.bool false) (by simp [execOp, (eval_of hvp), asBool, (eval_of hvq)]) rfl rfl hK'
    · obtain rfl := Option.some.inj ho
      obtain ⟨vp, hvp, hsp⟩ := hI.have 13 _ 22 (.val (.bool false)) rfl rfl rfl (hdep ⟨13, .data⟩ (by simp) rfl)
      obtain rfl := hsp
      exact hI.stepPure (by kernel_rfl) hls rfl rfl rfl (.bool false) (by simp [execOp, (eval_of hvp)]) rfl rfl hK'
    · obtain rfl := Option.some.inj ho
      obtain ⟨vg, hvg, hsg⟩ := hI.have 14 _ 23 (.val (.bool false)) rfl rfl rfl (hdep ⟨14, .guard⟩ (by simp) rfl)
      obtain rfl := hsg
      have hvp : an.eval (.tmp 3) = .pointer (some ⟨bc, 0, none⟩) := hI.old (t := 3) (by kernel_rfl) rfl
      exact hI.stepRead (by kernel_rfl) hls rfl (wanted_of rfl rfl rfl hvg) rfl (.agg (numsA .u8 (clampL l))) (fun hu => run_loadKey rfl hvp wn (hu.blk (Hc.out) (fun h => h)) (HS.out)) rfl rfl hK'
    · obtain rfl := Option.some.inj ho
      obtain ⟨vg, hvg, hsg⟩ := hI.have 14 _ 23 (.val (.bool false)) rfl rfl rfl (hdep ⟨14, .guard⟩ (by simp) rfl)
      obtain rfl := hsg
      obtain ⟨vp, hvp, hsp⟩ := hI.have 15 _ 24 (.val (.agg (numsA .u8 (clampL l)))) rfl rfl rfl (hdep ⟨15, .data⟩ (by simp) rfl)
      obtain rfl := hsp
      exact hI.stepCall (by kernel_rfl) hls rfl (wanted_of rfl rfl rfl hvg) rfl 15 #[.tmp 24] _ rfl #[.agg (numsA .u8 (clampL l))] (by simp [eval_of hvp]) enterClamp (.val (.agg (numsA .u8 (clampL (clampL l))))) rfl rfl ((clamp_any (clampL l) _ (by rw [clampL_length]; exact Hl.out) (clampL_digs Hd.out)).mono fun _ _ h => ⟨_, h.1, rfl, h.2⟩) hK'
    · obtain rfl := Option.some.inj ho
      obtain ⟨vg, hvg, hsg⟩ := hI.have 14 _ 23 (.val (.bool false)) rfl rfl rfl (hdep ⟨14, .guard⟩ (by simp) rfl)
      obtain rfl := hsg
      have hvp : an.eval (.tmp 3) = .pointer (some ⟨bc, 0, none⟩) := hI.old (t := 3) (by kernel_rfl) rfl
      exact hI.stepRead (by kernel_rfl) hls rfl (wanted_of rfl rfl rfl hvg) rfl (.agg (numsA .u8 (clampL l))) (fun hu => run_loadKey rfl hvp wn (hu.blk (Hc.out) (fun h => h)) (HS.out)) rfl rfl hK'
    · obtain rfl := Option.some.inj ho
      obtain ⟨vg, hvg, hsg⟩ := hI.have 14 _ 23 (.val (.bool false)) rfl rfl rfl (hdep ⟨14, .guard⟩ (by simp) rfl)
      obtain rfl := hsg
      obtain ⟨vp, hvp, hsp⟩ := hI.have 16 _ 25 (.val (.agg (numsA .u8 (clampL (clampL l))))) rfl rfl rfl (hdep ⟨16, .data⟩ (by simp) rfl)
      obtain rfl := hsp
      obtain ⟨vq, hvq, hsq⟩ := hI.have 17 _ 26 (.val (.agg (numsA .u8 (clampL l)))) rfl rfl rfl (hdep ⟨17, .data⟩ (by simp) rfl)
      obtain rfl := hsq
      exact hI.stepPure (by kernel_rfl) hls rfl (wanted_of rfl rfl rfl hvg) rfl (.bool false) (run_neqKey rfl (eval_of hvp) (eval_of hvq) (by rw [clampL_length, clampL_length]; exact Hl.out) (by rw [clampL_length]; exact Hl.out) (decide_eq_false (fun h => h (clamp_twice Hl.out Hd.out))) wn) rfl rfl hK'
    · obtain rfl := Option.some.inj ho
      obtain ⟨vp, hvp, hsp⟩ := hI.have 14 _ 23 (.val (.bool false)) rfl rfl rfl (hdep ⟨14, .data⟩ (by simp) rfl)
      obtain rfl := hsp
      obtain ⟨vq, hvq, hsq⟩ := hI.have 18 _ 27 (.val (.bool false)) rfl rfl rfl (hdep ⟨18, .data⟩ (by simp) rfl)
      obtain rfl := hsq
      exact hI.stepPure (by kernel_rfl) hls rfl rfl rfl (.bool false) (by simp [execOp, (eval_of hvp), asBool, (eval_of hvq)]) rfl rfl hK'
    · obtain rfl := Option.some.inj ho
      obtain ⟨vp, hvp, hsp⟩ := hI.have 19 _ 28 (.val (.bool false)) rfl rfl rfl (hdep ⟨19, .data⟩ (by simp) rfl)
      obtain rfl := hsp
      exact hI.stepPure (by kernel_rfl) hls rfl rfl rfl (.bool false) (by simp [execOp, (eval_of hvp)]) rfl rfl hK'
    · obtain rfl := Option.some.inj ho
      obtain ⟨vg, hvg, hsg⟩ := hI.have 20 _ 29 (.val (.bool false)) rfl rfl rfl (hdep ⟨20, .guard⟩ (by simp) rfl)
      obtain rfl := hsg
      have hvp : an.eval (.tmp 3) = .pointer (some ⟨bc, 0, none⟩) := hI.old (t := 3) (by kernel_rfl) rfl
      exact hI.stepPure (by kernel_rfl) hls rfl (wanted_of rfl rfl rfl hvg) rfl (.pointer (some ⟨bc, 0, none⟩)) (run_adr (off := 0) (i := 0) rfl Tryd.underlying25 size5 hvp rfl (by decide) wn) rfl rfl hK'
    · obtain rfl := Option.some.inj ho
      obtain ⟨vg, hvg, hsg⟩ := hI.have 20 _ 29 (.val (.bool false)) rfl rfl rfl (hdep ⟨20, .guard⟩ (by simp) rfl)
      obtain rfl := hsg
      obtain ⟨vp, hvp, hsp⟩ := hI.have 21 _ 30 (.val (.pointer (some ⟨bc, 0, none⟩))) rfl rfl rfl (hdep ⟨21, .data⟩ (by simp) rfl)
      obtain rfl := hsp
      exact hI.stepRead (by kernel_rfl) hls rfl (wanted_of rfl rfl rfl hvg) rfl (.int .u8 y0) (fun hu => run_cell rfl Tryd.underlying5 (eval_of hvp) wn (hu.cell (c0) (fun h => h))) rfl rfl hK'
    · obtain rfl := Option.some.inj ho
      obtain ⟨vg, hvg, hsg⟩ := hI.have 20 _ 29 (.val (.bool false)) rfl rfl rfl (hdep ⟨20, .guard⟩ (by simp) rfl)
      obtain rfl := hsg
      have hvp : an.eval (.tmp 1) = .pointer (some ⟨w.heap.size, 0, none⟩) := hI.old (t := 1) (by kernel_rfl) rfl
      exact hI.stepPure (by kernel_rfl) hls rfl (wanted_of rfl rfl rfl hvg) rfl (.pointer (some ⟨w.heap.size, 0, none⟩)) (run_adr (off := 0) (i := 0) rfl Tryd.underlying25 size5 hvp rfl (by decide) wn) rfl rfl hK'
    · obtain rfl := Option.some.inj ho
      obtain ⟨vg, hvg, hsg⟩ := hI.have 20 _ 29 (.val (.bool false)) rfl rfl rfl (hdep ⟨20, .guard⟩ (by simp) rfl)
      obtain rfl := hsg
      obtain ⟨vp, hvp, hsp⟩ := hI.have 23 _ 32 (.val (.pointer (some ⟨w.heap.size, 0, none⟩))) rfl rfl rfl (hdep ⟨23, .data⟩ (by simp) rfl)
      obtain rfl := hsp
      exact hI.stepRead (by kernel_rfl) hls rfl (wanted_of rfl rfl rfl hvg) rfl (.int .u8 x0) (fun hu => run_cell rfl Tryd.underlying5 (eval_of hvp) wn (hu.cell (k0) (fun h => h))) rfl rfl hK'
    · obtain rfl := Option.some.inj ho
      obtain ⟨vg, hvg, hsg⟩ := hI.have 20 _ 29 (.val (.bool false)) rfl rfl rfl (hdep ⟨20, .guard⟩ (by simp) rfl)
      obtain rfl := hsg
      have hvp : an.eval (.tmp 1) = .pointer (some ⟨w.heap.size, 0, none⟩) := hI.old (t := 1) (by kernel_rfl) rfl
      exact hI.stepPure (by kernel_rfl) hls rfl (wanted_of rfl rfl rfl hvg) rfl (.pointer (some ⟨w.heap.size, 0, none⟩)) (run_adr (off := 0) (i := 0) rfl Tryd.underlying25 size5 hvp rfl (by decide) wn) rfl rfl hK'
    · obtain rfl := Option.some.inj ho
      obtain ⟨vg, hvg, hsg⟩ := hI.have 20 _ 29 (.val (.bool false)) rfl rfl rfl (hdep ⟨20, .guard⟩ (by simp) rfl)
      obtain rfl := hsg
      obtain ⟨vp, hvp, hsp⟩ := hI.have 25 _ 34 (.val (.pointer (some ⟨w.heap.size, 0, none⟩))) rfl rfl rfl (hdep ⟨25, .data⟩ (by simp) rfl)
      obtain rfl := hsp
      exact hI.stepRead (by kernel_rfl) hls rfl (wanted_of rfl rfl rfl hvg) rfl (.int .u8 x0) (fun hu => run_cell rfl Tryd.underlying5 (eval_of hvp) wn (hu.cell (k0) (fun h => h))) rfl rfl hK'
    · obtain rfl := Option.some.inj ho
      obtain ⟨vg, hvg, hsg⟩ := hI.have 20 _ 29 (.val (.bool false)) rfl rfl rfl (hdep ⟨20, .guard⟩ (by simp) rfl)
      obtain rfl := hsg
      obtain ⟨vp, hvp, hsp⟩ := hI.have 26 _ 35 (.val (.int .u8 x0)) rfl rfl rfl (hdep ⟨26, .data⟩ (by simp) rfl)
      obtain rfl := hsp
      exact hI.stepPure (by kernel_rfl) hls rfl (wanted_of rfl rfl rfl hvg) rfl (.int .u8 (x0 % 8)) (run_rem rfl (eval_of hvp) rfl (by decide) hq27 wn) rfl rfl hK'
    · obtain rfl := Option.some.inj ho
      obtain ⟨vg, hvg, hsg⟩ := hI.have 20 _ 29 (.val (.bool false)) rfl rfl rfl (hdep ⟨20, .guard⟩ (by simp) rfl)
      obtain rfl := hsg
      obtain ⟨vp, hvp, hsp⟩ := hI.have 24 _ 33 (.val (.int .u8 x0)) rfl rfl rfl (hdep ⟨24, .data⟩ (by simp) rfl)
      obtain rfl := hsp
      obtain ⟨vq, hvq, hsq⟩ := hI.have 27 _ 36 (.val (.int .u8 (x0 % 8))) rfl rfl rfl (hdep ⟨27, .data⟩ (by simp) rfl)
      obtain rfl := hsq
      exact hI.stepPure (by kernel_rfl) hls rfl (wanted_of rfl rfl rfl hvg) rfl (.int .u8 (x0 - (x0 % 8))) (run_sub rfl (eval_of hvp) (eval_of hvq) hq28 wn) rfl rfl hK'
    · obtain rfl := Option.some.inj ho
      obtain ⟨vg, hvg, hsg⟩ := hI.have 20 _ 29 (.val (.bool false)) rfl rfl rfl (hdep ⟨20, .guard⟩ (by simp) rfl)
      obtain rfl := hsg
      obtain ⟨vp, hvp, hsp⟩ := hI.have 22 _ 31 (.val (.int .u8 y0)) rfl rfl rfl (hdep ⟨22, .data⟩ (by simp) rfl)
      obtain rfl := hsp
      obtain ⟨vq, hvq, hsq⟩ := hI.have 28 _ 37 (.val (.int .u8 (x0 - (x0 % 8)))) rfl rfl rfl (hdep ⟨28, .data⟩ (by simp) rfl)
      obtain rfl := hsq
      exact hI.stepPure (by kernel_rfl) hls rfl (wanted_of rfl rfl rfl hvg) rfl (.bool false) (run_neq rfl (eval_of hvp) (eval_of hvq) hq29 wn) rfl rfl hK'
    · obtain rfl := Option.some.inj ho
      obtain ⟨vp, hvp, hsp⟩ := hI.have 20 _ 29 (.val (.bool false)) rfl rfl rfl (hdep ⟨20, .data⟩ (by simp) rfl)
      obtain rfl := hsp
      obtain ⟨vq, hvq, hsq⟩ := hI.have 29 _ 38 (.val (.bool false)) rfl rfl rfl (hdep ⟨29, .data⟩ (by simp) rfl)
      obtain rfl := hsq
      exact hI.stepPure (by kernel_rfl) hls rfl rfl rfl (.bool false) (by simp [execOp, (eval_of hvp), asBool, (eval_of hvq)]) rfl rfl hK'
    · obtain rfl := Option.some.inj ho
      obtain ⟨vp, hvp, hsp⟩ := hI.have 30 _ 39 (.val (.bool false)) rfl rfl rfl (hdep ⟨30, .data⟩ (by simp) rfl)
      obtain rfl := hsp
      exact hI.stepPure (by kernel_rfl) hls rfl rfl rfl (.bool false) (by simp [execOp, (eval_of hvp)]) rfl rfl hK'
    · obtain rfl := Option.some.inj ho
      obtain ⟨vg, hvg, hsg⟩ := hI.have 31 _ 40 (.val (.bool false)) rfl rfl rfl (hdep ⟨31, .guard⟩ (by simp) rfl)
      obtain rfl := hsg
      have hvp : an.eval (.tmp 3) = .pointer (some ⟨bc, 0, none⟩) := hI.old (t := 3) (by kernel_rfl) rfl
      exact hI.stepPure (by kernel_rfl) hls rfl (wanted_of rfl rfl rfl hvg) rfl (.pointer (some ⟨bc, 31, none⟩)) (run_adr (off := 0) (i := 31) rfl Tryd.underlying25 size5 hvp rfl (by decide) wn) rfl rfl hK'
    · obtain rfl := Option.some.inj ho
      obtain ⟨vg, hvg, hsg⟩ := hI.have 31 _ 40 (.val (.bool false)) rfl rfl rfl (hdep ⟨31, .guard⟩ (by simp) rfl)
      obtain rfl := hsg
      obtain ⟨vp, hvp, hsp⟩ := hI.have 32 _ 41 (.val (.pointer (some ⟨bc, 31, none⟩))) rfl rfl rfl (hdep ⟨32, .data⟩ (by simp) rfl)
      obtain rfl := hsp
      exact hI.stepRead (by kernel_rfl) hls rfl (wanted_of rfl rfl rfl hvg) rfl (.int .u8 y31) (fun hu => run_cell rfl Tryd.underlying5 (eval_of hvp) wn (hu.cell (c31) (fun h => h))) rfl rfl hK'
    · obtain rfl := Option.some.inj ho
      obtain ⟨vg, hvg, hsg⟩ := hI.have 31 _ 40 (.val (.bool false)) rfl rfl rfl (hdep ⟨31, .guard⟩ (by simp) rfl)
      obtain rfl := hsg
      obtain ⟨vp, hvp, hsp⟩ := hI.have 33 _ 42 (.val (.int .u8 y31)) rfl rfl rfl (hdep ⟨33, .data⟩ (by simp) rfl)
      obtain rfl := hsp
      exact hI.stepPure (by kernel_rfl) hls rfl (wanted_of rfl rfl rfl hvg) rfl (.int .u8 (y31 % 64)) (run_rem rfl (eval_of hvp) rfl (by decide) hq34 wn) rfl rfl hK'
    · obtain rfl := Option.some.inj ho
      obtain ⟨vg, hvg, hsg⟩ := hI.have 31 _ 40 (.val (.bool false)) rfl rfl rfl (hdep ⟨31, .guard⟩ (by simp) rfl)
      obtain rfl := hsg
      have hvp : an.eval (.tmp 1) = .pointer (some ⟨w.heap.size, 0, none⟩) := hI.old (t := 1) (by kernel_rfl) rfl
      exact hI.stepPure (by kernel_rfl) hls rfl (wanted_of rfl rfl rfl hvg) rfl (.pointer (some ⟨w.heap.size, 31, none⟩)) (run_adr (off := 0) (i := 31) rfl Tryd.underlying25 size5 hvp rfl (by decide) wn) rfl rfl hK'
    · obtain rfl := Option.some.inj ho
      obtain ⟨vg, hvg, hsg⟩ := hI.have 31 _ 40 (.val (.bool false)) rfl rfl rfl (hdep ⟨31, .guard⟩ (by simp) rfl)
      obtain rfl := hsg
      obtain ⟨vp, hvp, hsp⟩ := hI.have 35 _ 44 (.val (.pointer (some ⟨w.heap.size, 31, none⟩))) rfl rfl rfl (hdep ⟨35, .data⟩ (by simp) rfl)
      obtain rfl := hsp
      exact hI.stepRead (by kernel_rfl) hls rfl (wanted_of rfl rfl rfl hvg) rfl (.int .u8 x31) (fun hu => run_cell rfl Tryd.underlying5 (eval_of hvp) wn (hu.cell (k31) (fun h => h))) rfl rfl hK'
    · obtain rfl := Option.some.inj ho
      obtain ⟨vg, hvg, hsg⟩ := hI.have 31 _ 40 (.val (.bool false)) rfl rfl rfl (hdep ⟨31, .guard⟩ (by simp) rfl)
      obtain rfl := hsg
      obtain ⟨vp, hvp, hsp⟩ := hI.have 36 _ 45 (.val (.int .u8 x31)) rfl rfl rfl (hdep ⟨36, .data⟩ (by simp) rfl)
      obtain rfl := hsp
      exact hI.stepPure (by kernel_rfl) hls rfl (wanted_of rfl rfl rfl hvg) rfl (.int .u8 (x31 % 64)) (run_rem rfl (eval_of hvp) rfl (by decide) hq37 wn) rfl rfl hK'
    · obtain rfl := Option.some.inj ho
      obtain ⟨vg, hvg, hsg⟩ := hI.have 31 _ 40 (.val (.bool false)) rfl rfl rfl (hdep ⟨31, .guard⟩ (by simp) rfl)
      obtain rfl := hsg
      obtain ⟨vp, hvp, hsp⟩ := hI.have 34 _ 43 (.val (.int .u8 (y31 % 64))) rfl rfl rfl (hdep ⟨34, .data⟩ (by simp) rfl)
      obtain rfl := hsp
      obtain ⟨vq, hvq, hsq⟩ := hI.have 37 _ 46 (.val (.int .u8 (x31 % 64))) rfl rfl rfl (hdep ⟨37, .data⟩ (by simp) rfl)
      obtain rfl := hsq
      exact hI.stepPure (by kernel_rfl) hls rfl (wanted_of rfl rfl rfl hvg) rfl (.bool false) (run_neq rfl (eval_of hvp) (eval_of hvq) hq38 wn) rfl rfl hK'
    · obtain rfl := Option.some.inj ho
      obtain ⟨vp, hvp, hsp⟩ := hI.have 31 _ 40 (.val (.bool false)) rfl rfl rfl (hdep ⟨31, .data⟩ (by simp) rfl)
      obtain rfl := hsp
      obtain ⟨vq, hvq, hsq⟩ := hI.have 38 _ 47 (.val (.bool false)) rfl rfl rfl (hdep ⟨38, .data⟩ (by simp) rfl)
      obtain rfl := hsq
      exact hI.stepPure (by kernel_rfl) hls rfl rfl rfl (.bool false) (by simp [execOp, (eval_of hvp), asBool, (eval_of hvq)]) rfl rfl hK'
  · intro fuel an wn hf hI
    obtain ⟨v0, hv0, hs0⟩ := hI.have 0 _ 9 (.val (.pointer (some ⟨bc, 0, none⟩))) rfl rfl rfl rfl
    obtain rfl := hs0
    obtain ⟨v1, hv1, hs1⟩ := hI.have 1 _ 10 (.val (.int .u8 y0)) rfl rfl rfl rfl
    obtain rfl := hs1
    obtain ⟨v2, hv2, hs2⟩ := hI.have 2 _ 11 (.val (.int .u8 (y0 % 8))) rfl rfl rfl rfl
    obtain rfl := hs2
    obtain ⟨v3, hv3, hs3⟩ := hI.have 3 _ 12 (.val (.bool false)) rfl rfl rfl rfl
    obtain rfl := hs3
    obtain ⟨v4, hv4, hs4⟩ := hI.have 4 _ 13 (.val (.bool false)) rfl rfl rfl rfl
    obtain rfl := hs4
    obtain ⟨v5, hv5, hs5⟩ := hI.have 5 _ 14 (.val (.pointer (some ⟨bc, 31, none⟩))) rfl rfl rfl rfl
    obtain rfl := hs5
    obtain ⟨v6, hv6, hs6⟩ := hI.have 6 _ 15 (.val (.int .u8 y31)) rfl rfl rfl rfl
    obtain rfl := hs6
    obtain ⟨v7, hv7, hs7⟩ := hI.have 7 _ 16 (.val (.bool false)) rfl rfl rfl rfl
    obtain rfl := hs7
    obtain ⟨v8, hv8, hs8⟩ := hI.have 8 _ 17 (.val (.bool false)) rfl rfl rfl rfl
    obtain rfl := hs8
    obtain ⟨v9, hv9, hs9⟩ := hI.have 9 _ 18 (.val (.bool false)) rfl rfl rfl rfl
    obtain rfl := hs9
    obtain ⟨v10, hv10, hs10⟩ := hI.have 10 _ 19 (.val (.pointer (some ⟨bc, 31, none⟩))) rfl rfl rfl rfl
    obtain rfl := hs10
    obtain ⟨v11, hv11, hs11⟩ := hI.have 11 _ 20 (.val (.int .u8 y31)) rfl rfl rfl rfl
    obtain rfl := hs11
    obtain ⟨v12, hv12, hs12⟩ := hI.have 12 _ 21 (.val (.bool false)) rfl rfl rfl rfl
    obtain rfl := hs12
    obtain ⟨v13, hv13, hs13⟩ := hI.have 13 _ 22 (.val (.bool false)) rfl rfl rfl rfl
    obtain rfl := hs13
    obtain ⟨v14, hv14, hs14⟩ := hI.have 14 _ 23 (.val (.bool false)) rfl rfl rfl rfl
    obtain rfl := hs14
    obtain ⟨v15, hv15, hs15⟩ := hI.have 15 _ 24 (.val (.agg (numsA .u8 (clampL l)))) rfl rfl rfl rfl
    obtain rfl := hs15
    obtain ⟨v16, hv16, hs16⟩ := hI.have 16 _ 25 (.val (.agg (numsA .u8 (clampL (clampL l))))) rfl rfl rfl rfl
    obtain rfl := hs16
    obtain ⟨v17, hv17, hs17⟩ := hI.have 17 _ 26 (.val (.agg (numsA .u8 (clampL l)))) rfl rfl rfl rfl
    obtain rfl := hs17
    obtain ⟨v18, hv18, hs18⟩ := hI.have 18 _ 27 (.val (.bool false)) rfl rfl rfl rfl
    obtain rfl := hs18
    obtain ⟨v19, hv19, hs19⟩ := hI.have 19 _ 28 (.val (.bool false)) rfl rfl rfl rfl
    obtain rfl := hs19
    obtain ⟨v20, hv20, hs20⟩ := hI.have 20 _ 29 (.val (.bool false)) rfl rfl rfl rfl
    obtain rfl := hs20
    obtain ⟨v21, hv21, hs21⟩ := hI.have 21 _ 30 (.val (.pointer (some ⟨bc, 0, none⟩))) rfl rfl rfl rfl
    obtain rfl := hs21
    obtain ⟨v22, hv22, hs22⟩ := hI.have 22 _ 31 (.val (.int .u8 y0)) rfl rfl rfl rfl
    obtain rfl := hs22
    obtain ⟨v23, hv23, hs23⟩ := hI.have 23 _ 32 (.val (.pointer (some ⟨w.heap.size, 0, none⟩))) rfl rfl rfl rfl
    obtain rfl := hs23
    obtain ⟨v24, hv24, hs24⟩ := hI.have 24 _ 33 (.val (.int .u8 x0)) rfl rfl rfl rfl
    obtain rfl := hs24
    obtain ⟨v25, hv25, hs25⟩ := hI.have 25 _ 34 (.val (.pointer (some ⟨w.heap.size, 0, none⟩))) rfl rfl rfl rfl
    obtain rfl := hs25
    obtain ⟨v26, hv26, hs26⟩ := hI.have 26 _ 35 (.val (.int .u8 x0)) rfl rfl rfl rfl
    obtain rfl := hs26
    obtain ⟨v27, hv27, hs27⟩ := hI.have 27 _ 36 (.val (.int .u8 (x0 % 8))) rfl rfl rfl rfl
    obtain rfl := hs27
    obtain ⟨v28, hv28, hs28⟩ := hI.have 28 _ 37 (.val (.int .u8 (x0 - (x0 % 8)))) rfl rfl rfl rfl
    obtain rfl := hs28
    obtain ⟨v29, hv29, hs29⟩ := hI.have 29 _ 38 (.val (.bool false)) rfl rfl rfl rfl
    obtain rfl := hs29
    obtain ⟨v30, hv30, hs30⟩ := hI.have 30 _ 39 (.val (.bool false)) rfl rfl rfl rfl
    obtain rfl := hs30
    obtain ⟨v31, hv31, hs31⟩ := hI.have 31 _ 40 (.val (.bool false)) rfl rfl rfl rfl
    obtain rfl := hs31
    obtain ⟨v32, hv32, hs32⟩ := hI.have 32 _ 41 (.val (.pointer (some ⟨bc, 31, none⟩))) rfl rfl rfl rfl
    obtain rfl := hs32
    obtain ⟨v33, hv33, hs33⟩ := hI.have 33 _ 42 (.val (.int .u8 y31)) rfl rfl rfl rfl
    obtain rfl := hs33
    obtain ⟨v34, hv34, hs34⟩ := hI.have 34 _ 43 (.val (.int .u8 (y31 % 64))) rfl rfl rfl rfl
    obtain rfl := hs34
    obtain ⟨v35, hv35, hs35⟩ := hI.have 35 _ 44 (.val (.pointer (some ⟨w.heap.size, 31, none⟩))) rfl rfl rfl rfl
    obtain rfl := hs35
    obtain ⟨v36, hv36, hs36⟩ := hI.have 36 _ 45 (.val (.int .u8 x31)) rfl rfl rfl rfl
    obtain rfl := hs36
    obtain ⟨v37, hv37, hs37⟩ := hI.have 37 _ 46 (.val (.int .u8 (x31 % 64))) rfl rfl rfl rfl
    obtain rfl := hs37
    obtain ⟨v38, hv38, hs38⟩ := hI.have 38 _ 47 (.val (.bool false)) rfl rfl rfl rfl
    obtain rfl := hs38
    obtain ⟨v39, hv39, hs39⟩ := hI.have 39 _ 48 (.val (.bool false)) rfl rfl rfl rfl
    obtain rfl := hs39
    have hupd := hI.upd
    have ha := hI.act [(9, .pointer (some ⟨bc, 0, none⟩)), (10, .int .u8 y0), (11, .int .u8 (y0 % 8)), (12, .bool false), (13, .bool false), (14, .pointer (some ⟨bc, 31, none⟩)), (15, .int .u8 y31), (16, .bool false), (17, .bool false), (18, .bool false), (19, .pointer (some ⟨bc, 31, none⟩)), (20, .int .u8 y31), (21, .bool false), (22, .bool false), (23, .bool false), (24, .agg (numsA .u8 (clampL l))), (25, .agg (numsA .u8 (clampL (clampL l)))), (26, .agg (numsA .u8 (clampL l))), (27, .bool false), (28, .bool false), (29, .bool false), (30, .pointer (some ⟨bc, 0, none⟩)), (31, .int .u8 y0), (32, .pointer (some ⟨w.heap.size, 0, none⟩)), (33, .int .u8 x0), (34, .pointer (some ⟨w.heap.size, 0, none⟩)), (35, .int .u8 x0), (36, .int .u8 (x0 % 8)), (37, .int .u8 (x0 - (x0 % 8))), (38, .bool false), (39, .bool false), (40, .bool false), (41, .pointer (some ⟨bc, 31, none⟩)), (42, .int .u8 y31), (43, .int .u8 (y31 % 64)), (44, .pointer (some ⟨w.heap.size, 31, none⟩)), (45, .int .u8 x31), (46, .int .u8 (x31 % 64)), (47, .bool false), (48, .bool false)] (by simp [hv0, hv1, hv2, hv3, hv4, hv5, hv6, hv7, hv8, hv9, hv10, hv11, hv12, hv13, hv14, hv15, hv16, hv17, hv18, hv19, hv20, hv21, hv22, hv23, hv24, hv25, hv26, hv27, hv28, hv29, hv30, hv31, hv32, hv33, hv34, hv35, hv36, hv37, hv38, hv39]) (by kernel_rfl)
    clear hI hv0 hv1 hv2 hv3 hv4 hv5 hv6 hv7 hv8 hv9 hv10 hv11 hv12 hv13 hv14 hv15 hv16 hv17 hv18 hv19 hv20 hv21 hv22 hv23 hv24 hv25 hv26 hv27 hv28 hv29 hv30 hv31 hv32 hv33 hv34 hv35 hv36 hv37 hv38 hv39
    subst ha
    simp only [List.foldl_cons, List.foldl_nil, List.setIfInBounds_toArray, List.set_cons_zero, List.set_cons_succ]
    refine wpAny_done (by kernel_rfl) ?_ _
    have Hu4 := Lib.hid (Hu3.out.drew.trans hupd)
    have Hc4 := Lib.hid (hupd.blk (show Blk _ _ _ _ from Hc.out) (fun h => h))
    have Hk4 := Lib.hid (hupd.blk (show Blk _ _ _ _ from Hk3.out) (fun h => h))
    clear hupd Hu3 Hc Hk3 c0 c31 k0 k31 f0 f1 b0 b1
    go_wp2
    go_loopw [4] (fun i wr => ∃ k : Nat, 1 ≤ k ∧ k ≤ 31 ∧ i = .int .i64 k ∧ Blk wr bc 25 (numsA .u8 (clampL l)) ∧ Blk wr w.heap.size 25 (numsA .u8 l) ∧ Upd (fun _ => False) w wr) (fun i _ => 31 - (intOf i).toNat)
    case atStart => exact ⟨1, by omega, by omega, rfl, Hc4.out, Hk4.out, Hu4.out⟩
    case round =>
      clear Hc4 Hk4 Hu4
      obtain ⟨k, hk1, hk2, rfl, hc, hkk, hu⟩ := hrel
      by_cases hlt : k < 31
      · have c1 : wr.cell? ⟨bc, k, none⟩ = some (.int .u8 ((clampL l).getD k 0)) := by rw [hc.cell, numsA_get _ _ _ (by rw [clampL_length, Hl.out]; omega)]
        have c2 : wr.cell? ⟨w.heap.size, k, none⟩ = some (.int .u8 (l.getD k 0)) := by rw [hkk.cell, numsA_get _ _ _ (by rw [Hl.out]; omega)]
        rw [H2.out k hk1 hlt] at c1
        have Hc := Lib.hid hc
        have Hkk := Lib.hid hkk
        have HU := Lib.hid hu
        generalize l.getD k 0 = z at *
        clear hc hkk hu
        go_wp2
        go_quiet (fail)
        go_wp2
        exact ⟨⟨k + 1, by omega, by omega, by go_num, Hc.out.drewN _, Hkk.out.drewN _, HU.out.drewN _⟩, by simp [intOf]; omega⟩
      · obtain rfl : k = 31 := by omega
        have hd8 : decide (((31 : Nat) : Int) < 31) = false := by decide
        have HU := Lib.hid hu
        clear hc hkk hu
        go_wp2
        go_ret
        exact ⟨rfl, HU.out⟩
end Go.Proofs.YtmfjlicchgacmaaDoor
