/-
  The walk of ScalarRound.
-/
import Derived.Test.YtmfjlicchgacmaaDoorRoundMath
namespace Go.Proofs.YtmfjlicchgacmaaDoor
open Go.RowKit

theorem enterCanonical (vs : Array Value) (w : World) : (callFunc 13 vs).run Tryd.prog w = .ok (.enter 13 vs) w := run_enter Tryd.func13 (by kernel_rfl) (by kernel_rfl) vs w
theorem enterMulAdd (vs : Array Value) (w : World) : (callFunc 11 vs).run Tryd.prog w = .ok (.enter 11 vs) w := run_enter Tryd.func11 (by kernel_rfl) (by kernel_rfl) vs w
set_option maxRecDepth 100000 in
set_option maxHeartbeats 1600000 in
theorem scalarRound_any (l : List Int) (n : Int) (w : World) (hT : Tab w) (hl : l.length = 32) (hd : Digs 256 l) (hn : 0 ≤ n ∧ n < 65536) :
    Calls Tryd.prog 7 #[.agg (numsA .u8 l), .int .u16 n] w fun e w' => e = .returned (.bool true) ∧ Upd (fun _ => False) w w' := by
  have HT := Lib.hid hT
  have Hl := Lib.hid hl
  have Hd := Lib.hid hd
  have HA : Hid ((numsA .u8 l).size = 32) := by show _ = _; rw [numsA_size]; exact hl
  clear hT hl hd
  have hz := zeroK_run
  have hset := zeroK_set2
  have hzs := zeroK_size
  obtain ⟨hn0, hn1⟩ := hn
  go_enter Tryd.func7, Tryd.ntmps7
  go_wp2_with fail
  refine (counts_any _ (HT.out.upd ((Upd.refl (fun _ => False) w).alloc _) (fun h => h))).mono ?_
  rintro e w1 ⟨rfl, hu⟩
  have Hk := Lib.hid (hu.blk (Blk.at1 w (numsA .u8 l) 25) (fun h => h))
  have Hu1 := Lib.hid (((Upd.refl (fun _ => False) w).alloc _).trans hu)
  have hlt1 := Hk.out.lt
  clear hu
  go_wp2_with fail
  refine (rOrder_any _).mono ?_
  rintro e w2 ⟨vo, rfl, hO, hu⟩
  obtain ⟨go, co, hvo, hgo, hgo2, hco⟩ := hO.cells (by decide)
  have hv2 : vo = .slice (some ⟨go, 0, none⟩) 32 co := hvo
  clear hvo
  subst hv2
  have hgo' : w1.heap.size + 1 ≤ go := by simpa using hgo
  have Hk2 := Lib.hid (hu.blk (Hk.out.alloc _) (fun h => h))
  have Ho2 := Lib.hid (hu.blk (Blk.at1 w1 zeroK 25) (fun h => h))
  have Hu2 := Lib.hid ((Hu1.out.alloc _).trans hu)
  have Hco := Lib.hid hco
  have hs1 := Hu1.out.size
  clear hu hO hco Hk Hu1 hgo
  generalize w1.heap.size = bo at *
  go_wp2
  go_loopw [16] (fun i wr => ∃ k : Nat, k ≤ 32 ∧ i = .int .i64 k ∧ Upd (fun _ => False) w wr ∧ Blk wr w.heap.size 25 (numsA .u8 l) ∧ CellsI wr go ordB ∧ Blk wr bo 25 (numsA .u8 (fillTo (fun j => ordB.getD j 0) 32 k))) (fun i _ => 32 - (intOf i).toNat)
  case atStart => exact ⟨0, by omega, rfl, Hu2.out, Hk2.out, Hco.out, by rw [fillTo_zero]; exact Ho2.out⟩
  case round =>
    clear Hu2 Hk2 Hco Ho2
    obtain ⟨k, hk, rfl, hu, hkb, hcs, hob⟩ := hrel
    by_cases hlt : k < 32
    · have c1 : wr.cell? ⟨bo, k, none⟩ = some (.int .u8 ((fillTo (fun j => ordB.getD j 0) 32 k).getD k 0)) := by rw [hob.cell, numsA_get _ _ _ (by rw [fillTo_length]; omega)]
      have c2 := hcs k (by rw [ordB_length]; exact hlt)
      have hfr := hob.frozen
      have hg := ordB_digs.get (B := 256) (by omega) k
      have hn2 := hob.set k (.int .u8 (ordB.getD k 0))
      rw [numsA_set, fillTo_succ (fun j => ordB.getD j 0) 32 k] at hn2
      have Hn2 := Lib.hid hn2
      have HU := Lib.hid (hu.set (p := ⟨bo, k, none⟩) (.int .u8 (ordB.getD k 0)) (fun h => absurd h (by simp; omega)))
      have HK := Lib.hid (hkb.setOther (show w.heap.size ≠ bo by omega) (a := ⟨bo, k, none⟩) (.int .u8 (ordB.getD k 0)))
      have HC := Lib.hid (hcs.upd ((Upd.refl (· = bo) wr).set (p := ⟨bo, k, none⟩) (.int .u8 (ordB.getD k 0)) (fun _ => rfl)) (show ¬ go = bo by omega))
      clear hu hkb hcs hob hn2
      generalize ordB.getD k 0 = x at *
      generalize (fillTo (fun j => ordB.getD j 0) 32 k).getD k 0 = y at *
      go_wp2
      exact ⟨⟨k + 1, by omega, by go_num, HU.out, HK.out, HC.out, Hn2.out⟩, by simp [intOf]; omega⟩
    · obtain rfl : k = 32 := by omega
      have hd8 : decide (((32 : Nat) : Int) < 32) = false := by decide
      rw [fill_list 32 ordB_length] at hob
      have HU := Lib.hid hu
      have HK := Lib.hid hkb
      have HO := Lib.hid hob
      have hlt3 := hob.lt
      have HOs : Hid ((numsA .u8 ordB).size = 32) := rfl
      clear hu hkb hcs hob
      have HL := Lib.hid (Blk.at1 wr zeroK 25)
      have HMs : Hid ((numsA .u8 (key2 (n % 256) (n / 256))).size = 32) := by show _ = _; rw [numsA_size, key2_length]
      have hbe : ordB.set 0 236 = lessL := rfl
      go_wp2_with (first
        | (refine wpList_loadBlk rfl 25 _ rfl bo 0 32 rfl 25 (numsA .u8 ordB) _ HO.out Tryd.underlying25 rfl sizeKey (by rw [HOs.out]; omega) ?_; rw [extract_all _ _ HOs.out])
        | (refine wpList_storeBlk2 rfl 25 _ _ rfl wr.heap.size 0 32 rfl (numsA .u8 ordB) rfl 25 _ HL.out sizeKey HOs.out (by rw [zeroK_size]; omega) (numsA_one _ _) ?_; intro w5 hb5 hu5 hz5; rw [splice_all _ _ 32 zeroK_size HOs.out] at hb5; have HL5 := Lib.hid hb5; have HU5 := Lib.hid ((HU.out.alloc _).step hu5 (fun i hi h => by have := HU.out.size; omega)); have HK5 := Lib.hid (hu5.blk (HK.out.alloc _) (show ¬ w.heap.size = wr.heap.size by omega)); have HO5 := Lib.hid (hu5.blk (HO.out.alloc _) (show ¬ bo = wr.heap.size by omega)); have c0 : w5.cell? ⟨wr.heap.size, 0, none⟩ = some (.int .u8 237) := hb5.cell 0; have hfr5 := hb5.frozen; have HM : Hid (Blk ((w5.setCell ⟨wr.heap.size, 0, none⟩ (.int .u8 236)).alloc (.cells zeroK 25)) w5.heap.size 25 zeroK) := blk_setNew w5 _ _ _ _; have hlt5 := hb5.lt; clear hb5 hu5 hz5)
        | (refine wpList_storeBlk2 rfl 25 _ _ rfl w5.heap.size 0 32 rfl (numsA .u8 (key2 (n % 256) (n / 256))) rfl 25 _ HM.out sizeKey HMs.out (by rw [zeroK_size]; omega) (numsA_one _ _) ?_; intro w6 hb6 hu6 hz6; rw [splice_all _ _ 32 zeroK_size HMs.out] at hb6; have HM6 := Lib.hid hb6; have HU6 := Lib.hid (((HU5.out.set (p := ⟨wr.heap.size, 0, none⟩) (.int .u8 236) (fun h => absurd h (by have := HU.out.size; simp; omega))).alloc (.cells zeroK 25)).step hu6 (fun i hi h => by have := HU.out.size; omega)); have HK6 := Lib.hid (hu6.blk ((HK5.out.setOther (a := ⟨wr.heap.size, 0, none⟩) (show w.heap.size ≠ wr.heap.size by omega) (.int .u8 236)).alloc _) (show ¬ w.heap.size = w5.heap.size by omega)); have HO6 := Lib.hid (hu6.blk ((HO5.out.setOther (a := ⟨wr.heap.size, 0, none⟩) (show bo ≠ wr.heap.size by omega) (.int .u8 236)).alloc _) (show ¬ bo = w5.heap.size by omega)); have HL6 := Lib.hid (hu6.blk ((HL5.out.set 0 (.int .u8 236)).alloc _) (show ¬ wr.heap.size = w5.heap.size by omega)); clear hb6 hu6 hz6))
      have hL7 := HL6.out
      rw [numsA_set, hbe] at hL7
      have HL7 := Lib.hid hL7
      clear hL7 HL6 HM HL5 HU5 HK5 HO5 c0 hfr5 HL HU HK HO hset hbe
      have HX := Lib.hid (show (0 : Int) ≤ n % 256 ∧ n % 256 < 256 by omega)
      have HY := Lib.hid (show (0 : Int) ≤ n / 256 ∧ n / 256 < 256 by omega)
      generalize n % 256 = x at *
      generalize n / 256 = y at *
      generalize wr.heap.size = bl at *
      generalize w5.heap.size = bm at *
      dsimp only [Act.put]
      have HLs : Hid ((numsA .u8 lessL).size = 32) := rfl
      refine wp_region_slots #[true, true, true, true, true, true, true, true, true, true, true, true, true, true, true] ([.val (.agg (numsA .u8 ordB)), .val (.agg (numsA .u8 l)), .val (.agg (numsA .u8 (key2 x y))), .val (.agg (numsA .u8 (mulL ordB l (key2 x y)))), .val (.agg (numsA .u8 (key2 x y))), .val (.bool false), .val (.bool false), .val (.agg (numsA .u8 ordB)), .val (.bool false), .val (.bool false), .val (.bool false), .val (.agg (numsA .u8 lessL)), .val (.bool true), .val (.bool false), .val (.bool false)] : List SP) (by kernel_rfl) (by kernel_rfl) (by kernel_rfl) ?_ ?_
      · intro i o listed an wn ho hls hst hun hdep hI K' hK'
        have hi : i < 15 := by
          have := idx_lt ho; simp only [List.size_toArray, List.length_cons, List.length_nil] at this; exact this
        have hcase : i = 0 ∨ i = 1 ∨ i = 2 ∨ i = 3 ∨ i = 4 ∨ i = 5 ∨ i = 6 ∨ i = 7 ∨ i = 8 ∨ i = 9 ∨ i = 10 ∨ i = 11 ∨ i = 12 ∨ i = 13 ∨ i = 14 := by clear hls hst hun hdep hI hK' ho; omega
        rcases hcase with rfl | rfl | rfl | rfl | rfl | rfl | rfl | rfl | rfl | rfl | rfl | rfl | rfl | rfl | rfl
        · obtain rfl := Option.some.inj ho
          have hvp : an.eval (.tmp 5) = .pointer (some ⟨bo, 0, none⟩) := hI.old (t := 5) (by kernel_rfl) rfl
          exact hI.stepRead (by kernel_rfl) hls rfl rfl rfl (.agg (numsA .u8 ordB)) (fun hu => run_loadKey rfl hvp wn (hu.blk (HO6.out) (fun h => h)) (HOs.out)) rfl rfl hK'
        · obtain rfl := Option.some.inj ho
          have hvp : an.eval (.tmp 2) = .pointer (some ⟨w.heap.size, 0, none⟩) := hI.old (t := 2) (by kernel_rfl) rfl
          exact hI.stepRead (by kernel_rfl) hls rfl rfl rfl (.agg (numsA .u8 l)) (fun hu => run_loadKey rfl hvp wn (hu.blk (HK6.out) (fun h => h)) (HA.out)) rfl rfl hK'
        · obtain rfl := Option.some.inj ho
          have hvp : an.eval (.tmp 9) = .pointer (some ⟨bm, 0, none⟩) := hI.old (t := 9) (by kernel_rfl) rfl
          exact hI.stepRead (by kernel_rfl) hls rfl rfl rfl (.agg (numsA .u8 (key2 x y))) (fun hu => run_loadKey rfl hvp wn (hu.blk (HM6.out) (fun h => h)) (HMs.out)) rfl rfl hK'
        · obtain rfl := Option.some.inj ho
          obtain ⟨vp, hvp, hsp⟩ := hI.have 0 _ 37 (.val (.agg (numsA .u8 ordB))) rfl rfl rfl (hdep ⟨0, .data⟩ (by simp) rfl)
          obtain rfl := hsp
          obtain ⟨vq, hvq, hsq⟩ := hI.have 1 _ 38 (.val (.agg (numsA .u8 l))) rfl rfl rfl (hdep ⟨1, .data⟩ (by simp) rfl)
          obtain rfl := hsq
          obtain ⟨vr, hvr, hsr⟩ := hI.have 2 _ 39 (.val (.agg (numsA .u8 (key2 x y)))) rfl rfl rfl (hdep ⟨2, .data⟩ (by simp) rfl)
          obtain rfl := hsr
          exact hI.stepCall (by kernel_rfl) hls rfl rfl rfl 11 #[.tmp 37, .tmp 38, .tmp 39] _ rfl #[.agg (numsA .u8 ordB), .agg (numsA .u8 l), .agg (numsA .u8 (key2 x y))] (by simp [eval_of hvp, eval_of hvq, eval_of hvr]) enterMulAdd (.val (.agg (numsA .u8 (mulL ordB l (key2 x y))))) rfl rfl ((mulAdd_any ordB l (key2 x y) _ (HT.out.upd (HU6.out.drew.trans hI.upd) (fun h => h)) (ordB_length) (ordB_digs) (Hl.out) (Hd.out) (key2_length _ _) (key2_digs HX.out HY.out)).mono fun _ _ h => ⟨_, h.1, rfl, h.2⟩) hK'
        · obtain rfl := Option.some.inj ho
          have hvp : an.eval (.tmp 9) = .pointer (some ⟨bm, 0, none⟩) := hI.old (t := 9) (by kernel_rfl) rfl
          exact hI.stepRead (by kernel_rfl) hls rfl rfl rfl (.agg (numsA .u8 (key2 x y))) (fun hu => run_loadKey rfl hvp wn (hu.blk (HM6.out) (fun h => h)) (HMs.out)) rfl rfl hK'
        · obtain rfl := Option.some.inj ho
          obtain ⟨vp, hvp, hsp⟩ := hI.have 3 _ 40 (.val (.agg (numsA .u8 (mulL ordB l (key2 x y))))) rfl rfl rfl (hdep ⟨3, .data⟩ (by simp) rfl)
          obtain rfl := hsp
          obtain ⟨vq, hvq, hsq⟩ := hI.have 4 _ 41 (.val (.agg (numsA .u8 (key2 x y)))) rfl rfl rfl (hdep ⟨4, .data⟩ (by simp) rfl)
          obtain rfl := hsq
          exact hI.stepPure (by kernel_rfl) hls rfl rfl rfl (.bool false) (run_neqKey rfl (eval_of hvp) (eval_of hvq) (mulL_length _ _ _) (key2_length _ _) (decide_eq_false (fun h => h (round_more l HX.out HY.out))) wn) rfl rfl hK'
        · obtain rfl := Option.some.inj ho
          obtain ⟨vp, hvp, hsp⟩ := hI.have 5 _ 42 (.val (.bool false)) rfl rfl rfl (hdep ⟨5, .data⟩ (by simp) rfl)
          obtain rfl := hsp
          exact hI.stepPure (by kernel_rfl) hls rfl rfl rfl (.bool false) (by simp [execOp, (eval_of hvp)]) rfl rfl hK'
        · obtain rfl := Option.some.inj ho
          obtain ⟨vg, hvg, hsg⟩ := hI.have 6 _ 43 (.val (.bool false)) rfl rfl rfl (hdep ⟨6, .guard⟩ (by simp) rfl)
          obtain rfl := hsg
          have hvp : an.eval (.tmp 5) = .pointer (some ⟨bo, 0, none⟩) := hI.old (t := 5) (by kernel_rfl) rfl
          exact hI.stepRead (by kernel_rfl) hls rfl (wanted_of rfl rfl rfl hvg) rfl (.agg (numsA .u8 ordB)) (fun hu => run_loadKey rfl hvp wn (hu.blk (HO6.out) (fun h => h)) (HOs.out)) rfl rfl hK'
        · obtain rfl := Option.some.inj ho
          obtain ⟨vg, hvg, hsg⟩ := hI.have 6 _ 43 (.val (.bool false)) rfl rfl rfl (hdep ⟨6, .guard⟩ (by simp) rfl)
          obtain rfl := hsg
          obtain ⟨vp, hvp, hsp⟩ := hI.have 7 _ 44 (.val (.agg (numsA .u8 ordB))) rfl rfl rfl (hdep ⟨7, .data⟩ (by simp) rfl)
          obtain rfl := hsp
          exact hI.stepCall (by kernel_rfl) hls rfl (wanted_of rfl rfl rfl hvg) rfl 13 #[.tmp 44] _ rfl #[.agg (numsA .u8 ordB)] (by simp [eval_of hvp]) enterCanonical (.val (.bool false)) rfl rfl ((canonical_any ordB _ (HT.out.upd (HU6.out.drew.trans hI.upd) (fun h => h)) ordB_length ordB_digs).mono fun _ _ h => ⟨_, h.1.trans (congrArg (fun b => Ending.returned (.bool b)) ord_canon), rfl, h.2⟩) hK'
        · obtain rfl := Option.some.inj ho
          obtain ⟨vp, hvp, hsp⟩ := hI.have 6 _ 43 (.val (.bool false)) rfl rfl rfl (hdep ⟨6, .data⟩ (by simp) rfl)
          obtain rfl := hsp
          obtain ⟨vq, hvq, hsq⟩ := hI.have 8 _ 45 (.val (.bool false)) rfl rfl rfl (hdep ⟨8, .data⟩ (by simp) rfl)
          obtain rfl := hsq
          exact hI.stepPure (by kernel_rfl) hls rfl rfl rfl (.bool false) (by simp [execOp, (eval_of hvp), asBool, (eval_of hvq)]) rfl rfl hK'
        · obtain rfl := Option.some.inj ho
          obtain ⟨vp, hvp, hsp⟩ := hI.have 9 _ 46 (.val (.bool false)) rfl rfl rfl (hdep ⟨9, .data⟩ (by simp) rfl)
          obtain rfl := hsp
          exact hI.stepPure (by kernel_rfl) hls rfl rfl rfl (.bool false) (by simp [execOp, (eval_of hvp)]) rfl rfl hK'
        · obtain rfl := Option.some.inj ho
          obtain ⟨vg, hvg, hsg⟩ := hI.have 10 _ 47 (.val (.bool false)) rfl rfl rfl (hdep ⟨10, .guard⟩ (by simp) rfl)
          obtain rfl := hsg
          have hvp : an.eval (.tmp 8) = .pointer (some ⟨bl, 0, none⟩) := hI.old (t := 8) (by kernel_rfl) rfl
          exact hI.stepRead (by kernel_rfl) hls rfl (wanted_of rfl rfl rfl hvg) rfl (.agg (numsA .u8 lessL)) (fun hu => run_loadKey rfl hvp wn (hu.blk (HL7.out) (fun h => h)) (HLs.out)) rfl rfl hK'
        · obtain rfl := Option.some.inj ho
          obtain ⟨vg, hvg, hsg⟩ := hI.have 10 _ 47 (.val (.bool false)) rfl rfl rfl (hdep ⟨10, .guard⟩ (by simp) rfl)
          obtain rfl := hsg
          obtain ⟨vp, hvp, hsp⟩ := hI.have 11 _ 48 (.val (.agg (numsA .u8 lessL))) rfl rfl rfl (hdep ⟨11, .data⟩ (by simp) rfl)
          obtain rfl := hsp
          exact hI.stepCall (by kernel_rfl) hls rfl (wanted_of rfl rfl rfl hvg) rfl 13 #[.tmp 48] _ rfl #[.agg (numsA .u8 lessL)] (by simp [eval_of hvp]) enterCanonical (.val (.bool true)) rfl rfl ((canonical_any lessL _ (HT.out.upd (HU6.out.drew.trans hI.upd) (fun h => h)) lessL_length lessL_digs).mono fun _ _ h => ⟨_, h.1.trans (congrArg (fun b => Ending.returned (.bool b)) less_canon), rfl, h.2⟩) hK'
        · obtain rfl := Option.some.inj ho
          obtain ⟨vg, hvg, hsg⟩ := hI.have 10 _ 47 (.val (.bool false)) rfl rfl rfl (hdep ⟨10, .guard⟩ (by simp) rfl)
          obtain rfl := hsg
          obtain ⟨vp, hvp, hsp⟩ := hI.have 12 _ 49 (.val (.bool true)) rfl rfl rfl (hdep ⟨12, .data⟩ (by simp) rfl)
          obtain rfl := hsp
          exact hI.stepPure (by kernel_rfl) hls rfl (wanted_of rfl rfl rfl hvg) rfl (.bool false) (run_not rfl (eval_of hvp) wn) rfl rfl hK'
        · obtain rfl := Option.some.inj ho
          obtain ⟨vp, hvp, hsp⟩ := hI.have 10 _ 47 (.val (.bool false)) rfl rfl rfl (hdep ⟨10, .data⟩ (by simp) rfl)
          obtain rfl := hsp
          obtain ⟨vq, hvq, hsq⟩ := hI.have 13 _ 50 (.val (.bool false)) rfl rfl rfl (hdep ⟨13, .data⟩ (by simp) rfl)
          obtain rfl := hsq
          exact hI.stepPure (by kernel_rfl) hls rfl rfl rfl (.bool false) (by simp [execOp, (eval_of hvp), asBool, (eval_of hvq)]) rfl rfl hK'
      · intro fuel an wn hf hI
        obtain ⟨v0, hv0, hs0⟩ := hI.have 0 _ 37 (.val (.agg (numsA .u8 ordB))) rfl rfl rfl rfl
        obtain rfl := hs0
        obtain ⟨v1, hv1, hs1⟩ := hI.have 1 _ 38 (.val (.agg (numsA .u8 l))) rfl rfl rfl rfl
        obtain rfl := hs1
        obtain ⟨v2, hv2, hs2⟩ := hI.have 2 _ 39 (.val (.agg (numsA .u8 (key2 x y)))) rfl rfl rfl rfl
        obtain rfl := hs2
        obtain ⟨v3, hv3, hs3⟩ := hI.have 3 _ 40 (.val (.agg (numsA .u8 (mulL ordB l (key2 x y))))) rfl rfl rfl rfl
        obtain rfl := hs3
        obtain ⟨v4, hv4, hs4⟩ := hI.have 4 _ 41 (.val (.agg (numsA .u8 (key2 x y)))) rfl rfl rfl rfl
        obtain rfl := hs4
        obtain ⟨v5, hv5, hs5⟩ := hI.have 5 _ 42 (.val (.bool false)) rfl rfl rfl rfl
        obtain rfl := hs5
        obtain ⟨v6, hv6, hs6⟩ := hI.have 6 _ 43 (.val (.bool false)) rfl rfl rfl rfl
        obtain rfl := hs6
        obtain ⟨v7, hv7, hs7⟩ := hI.have 7 _ 44 (.val (.agg (numsA .u8 ordB))) rfl rfl rfl rfl
        obtain rfl := hs7
        obtain ⟨v8, hv8, hs8⟩ := hI.have 8 _ 45 (.val (.bool false)) rfl rfl rfl rfl
        obtain rfl := hs8
        obtain ⟨v9, hv9, hs9⟩ := hI.have 9 _ 46 (.val (.bool false)) rfl rfl rfl rfl
        obtain rfl := hs9
        obtain ⟨v10, hv10, hs10⟩ := hI.have 10 _ 47 (.val (.bool false)) rfl rfl rfl rfl
        obtain rfl := hs10
        obtain ⟨v11, hv11, hs11⟩ := hI.have 11 _ 48 (.val (.agg (numsA .u8 lessL))) rfl rfl rfl rfl
        obtain rfl := hs11
        obtain ⟨v12, hv12, hs12⟩ := hI.have 12 _ 49 (.val (.bool true)) rfl rfl rfl rfl
        obtain rfl := hs12
        obtain ⟨v13, hv13, hs13⟩ := hI.have 13 _ 50 (.val (.bool false)) rfl rfl rfl rfl
        obtain rfl := hs13
        obtain ⟨v14, hv14, hs14⟩ := hI.have 14 _ 51 (.val (.bool false)) rfl rfl rfl rfl
        obtain rfl := hs14
        have hupd := hI.upd
        have ha := hI.act [(37, .agg (numsA .u8 ordB)), (38, .agg (numsA .u8 l)), (39, .agg (numsA .u8 (key2 x y))), (40, .agg (numsA .u8 (mulL ordB l (key2 x y)))), (41, .agg (numsA .u8 (key2 x y))), (42, .bool false), (43, .bool false), (44, .agg (numsA .u8 ordB)), (45, .bool false), (46, .bool false), (47, .bool false), (48, .agg (numsA .u8 lessL)), (49, .bool true), (50, .bool false), (51, .bool false)] (by simp [hv0, hv1, hv2, hv3, hv4, hv5, hv6, hv7, hv8, hv9, hv10, hv11, hv12, hv13, hv14]) (by kernel_rfl)
        clear hI hv0 hv1 hv2 hv3 hv4 hv5 hv6 hv7 hv8 hv9 hv10 hv11 hv12 hv13 hv14
        subst ha
        simp only [List.foldl_cons, List.foldl_nil, List.setIfInBounds_toArray, List.set_cons_zero, List.set_cons_succ]
        refine wpAny_done (by kernel_rfl) ?_ _
        have Hu8 := Lib.hid (HU6.out.drew.trans hupd)
        have HK8 := Lib.hid (hupd.blk (show Blk _ _ _ _ from HK6.out) (fun h => h))
        have HL8 := Lib.hid (hupd.blk (show Blk _ _ _ _ from HL7.out) (fun h => h))
        clear hupd HU6 HK6 HO6 HL7 HM6
        generalize wn = w8 at *
        go_wp2_with fail
        refine (reduce_key l w.heap.size w8.heap.size 25 _ (HT.out.upd (Hu8.out.alloc _) (fun h => h)) Hl.out Hd.out (HK8.out.alloc _) (Blk.at1 w8 _ _)).mono ?_
        rintro e w9 ⟨rfl, hu⟩
        have Hu9 := Lib.hid ((Hu8.out.alloc _).trans hu)
        have HL9 := Lib.hid (hu.blk (HL8.out.alloc _) (fun h => h))
        have hl9 := HL9.out.lt
        clear hu Hu8 HK8 HL8
        have HXs : Hid ((numsA .u8 (redL l)).size = 32) := by show _ = _; rw [numsA_size, redL_length]
        go_wp2_with (first | (refine wpList_storeBlk2 rfl 25 _ _ rfl w9.heap.size 0 32 rfl (numsA .u8 (redL l)) rfl 25 _ (Blk.at1 w9 zeroK 25) sizeKey HXs.out (by rw [zeroK_size]; omega) (numsA_one _ _) ?_; intro wa hba hua hza; rw [splice_all _ _ 32 zeroK_size HXs.out] at hba; have HXa := Lib.hid hba; have HUa := Lib.hid ((Hu9.out.alloc _).step hua (fun i hi h => by have := Hu9.out.size; omega)); have HLa := Lib.hid (hua.blk (HL9.out.alloc _) (show ¬ bl = w9.heap.size by omega)); clear hba hua hza) | (refine wpList_loadBlk rfl 25 _ rfl bl 0 32 rfl 25 (numsA .u8 lessL) _ HLa.out Tryd.underlying25 rfl sizeKey (by rw [HLs.out]; omega) ?_; rw [extract_all _ _ HLs.out]) | (refine wpList_loadBlk rfl 25 _ rfl w9.heap.size 0 32 rfl 25 (numsA .u8 (redL l)) _ HXa.out Tryd.underlying25 rfl sizeKey (by rw [HXs.out]; omega) ?_; rw [extract_all _ _ HXs.out]))
        refine (mulAdd_any lessL (redL l) (redL l) _ (HT.out.upd HUa.out (fun h => h)) lessL_length lessL_digs (redL_length _) (redL_digs _) (redL_length _) (redL_digs _)).mono ?_
        rintro e wb ⟨he, hu⟩
        have he2 : e = .returned (.agg (numsA .u8 (keyL 0))) := he.trans (congrArg (fun l => Ending.returned (.agg (numsA .u8 l))) (round_back l))
        clear he
        subst he2
        have Hub := Lib.hid (HUa.out.trans hu)
        have HLb := Lib.hid (hu.blk HLa.out (fun h => h))
        have hlb := HLb.out.lt
        clear hu HUa HLa HXa Hu9 HL9
        have H0s : Hid ((numsA .u8 (keyL 0)).size = 32) := rfl
        have hk1 := zeroK_set
        have e0 : ∀ w, (Op.equalIn 10000 25 (.agg (numsA .u8 (keyL 0))) (.agg zeroK)).run Tryd.prog w = .ok true w := fun w => by have h := eqKey (keyL 0) (keyL 0) (keyL_length _) (keyL_length _) w; rw [decide_eq_true rfl] at h; exact h
        have hg := guardKey
        go_wp2_with (first | (refine wpList_storeBlk2 rfl 25 _ _ rfl wb.heap.size 0 32 rfl (numsA .u8 (keyL 0)) rfl 25 _ (Blk.at1 wb zeroK 25) sizeKey H0s.out (by rw [zeroK_size]; omega) (numsA_one _ _) ?_; intro wc hbc huc hzc; rw [splice_all _ _ 32 zeroK_size H0s.out] at hbc; have HXc := Lib.hid hbc; have HUc := Lib.hid ((Hub.out.alloc _).step huc (fun i hi h => by have := Hub.out.size; omega)); have HLc := Lib.hid (huc.blk (HLb.out.alloc _) (show ¬ bl = wb.heap.size by omega)); clear hbc huc hzc) | (refine wpList_loadBlkG (by rfl) 25 _ rfl bl 32 rfl 25 (numsA .u8 lessL) _ HLc.out Tryd.underlying25 rfl sizeKey HLs.out ?_) | (refine wpList_loadBlk rfl 25 _ rfl wb.heap.size 0 32 rfl 25 (numsA .u8 (keyL 0)) _ HXc.out Tryd.underlying25 rfl sizeKey (by rw [H0s.out]; omega) ?_; rw [extract_all _ _ H0s.out]))
        refine (mulAdd_any lessL lessL (keyL 0) _ (HT.out.upd HUc.out (fun h => h)) lessL_length lessL_digs lessL_length lessL_digs (keyL_length _) (keyL_digs (by omega))).mono ?_
        rintro e wd ⟨he, hu⟩
        have he2 : e = .returned (.agg (numsA .u8 (keyL 1))) := he.trans (congrArg (fun l => Ending.returned (.agg (numsA .u8 l))) round_less)
        clear he
        subst he2
        have Hud := Lib.hid (HUc.out.trans hu)
        clear hu
        have e1 : ∀ w, (Op.equalIn 10000 25 (.agg (numsA .u8 (keyL 1))) (.agg (numsA .u8 (keyL 1)))).run Tryd.prog w = .ok true w := fun w => by have h := eqKey (keyL 1) (keyL 1) (keyL_length _) (keyL_length _) w; rw [decide_eq_true rfl] at h; exact h
        go_wp2
        go_ret
        exact ⟨rfl, Hud.out⟩
end Go.Proofs.YtmfjlicchgacmaaDoor
