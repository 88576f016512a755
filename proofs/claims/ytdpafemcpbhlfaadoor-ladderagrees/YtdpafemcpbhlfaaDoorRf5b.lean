/-
  Walks of the reference of layer 5: Multiply, Public, Agree.
-/
import Derived.Test.YtdpafemcpbhlfaaDoorRf5
import Derived.Test.YtdpafemcpbhlfaaDoorR5Math
import Derived.Test.YtdpafemcpbhlfaaDoorLad2
namespace Go.Proofs.YtdpafemcpbhlfaaDoor
set_option maxRecDepth 100000
open Go.RowKit

def keyY0 : List Int := [9, 0, 0, 0, 0, 0, 0, 0, 0, 0, 0, 0, 0, 0, 0, 0, 0, 0, 0, 0, 0, 0, 0, 0, 0, 0, 0, 0, 0, 0, 0, 0]
theorem keyY0_length : keyY0.length = 32 := rfl
theorem keyY0_digs : Digs 256 keyY0 := digs_of_all (by decide)
theorem keyY0_run {o : Oper} {a : Act} (ho : o.op = .build 23 #[(0, .const (.int .u8 9))]) (w : World) : (execOp a.eval o).run Tryd.prog w = .ok (.value (.agg (numsA .u8 keyY0))) w := by
  have hb : (Instr.build 23 #[(0, .int .u8 9)]).run Tryd.prog w = .ok (.agg (numsA .u8 keyY0)) w := by kernel_rfl
  have hm : (#[(0, .const (.int .u8 9))] : Array (Nat × Operand)).map (fun (i, x) => (i, a.eval x)) = #[(0, .int .u8 9)] := by simp [Act.eval]
  unfold execOp
  simp only [ho]
  rw [hm, Sem.run_bind, hb]
  rfl
set_option maxHeartbeats 4000000 in
theorem rmultiplyR {l m : List Int} (w : World) (hl : l.length = 32) (hd : Digs 256 l) (hm : m.length = 32) (hn : Digs 256 m) :
    Calls Tryd.prog 18 #[.agg (numsA .u8 l), .agg (numsA .u8 m)] w fun e w' => e = .returned (.agg (numsA .u8 (keyOf (((refF (clampL l) (ofKey m) 0).x1) * (finv ((refF (clampL l) (ofKey m) 0).z1)))))) ∧ Upd (fun _ => False) w w' := by
  have HU := Lib.hid (Upd.refl (fun _ => False) w)
  have g0 := hd.get (B := 256) (by omega) 0
  have h0 : 0 ≤ l.getD 0 0 - l.getD 0 0 % 8 ∧ l.getD 0 0 - l.getD 0 0 % 8 < 256 := by omega
  have d1 := digs_set hd 0 (l.getD 0 0 - l.getD 0 0 % 8) h0.1 h0.2
  have g1 := d1.get (B := 256) (by omega) 31
  have h1 : 0 ≤ ((l.set 0 ((l.getD 0 0) - ((l.getD 0 0) % 8))).getD 31 0) % 64 + 64 ∧ ((l.set 0 ((l.getD 0 0) - ((l.getD 0 0) % 8))).getD 31 0) % 64 + 64 < 256 := by omega
  clear g0 d1 g1
  go_enter Tryd.func18, Tryd.ntmps18
  refine wp_seq_k fun K0 hK0 => ?_
  refine wp_region_qS 3 #[true, true, true] [] ([.blk ptrTo 23 (fun z => z = numsA .u8 l), .blk ptrTo 23 (fun z => z = numsA .u8 m), .blk ptrTo 23 (fun z => z = numsA .u8 zeroKL)] : List SQ) (by kernel_rfl) (by kernel_rfl) (by kernel_rfl) ?_ ?_
  · intro i o listed an wn ho hls hst hun hdep hI hpre K' hK'
    have hi : i = 0 ∨ i = 1 ∨ i = 2 ∨ False := slot_cases (l := [0, 1, 2]) rfl ho hst
    rcases hi with rfl | rfl | rfl | hi
    · obtain rfl := Option.some.inj ho
      have hvp : an.eval (.tmp 0) = .agg (numsA .u8 l) := hI.oldQ (by kernel_rfl) rfl
      exact hI.newQ (by kernel_rfl) hls (Nat.le_refl _) (newsQ_spec (l := [0, 1, 2]) (by kernel_rfl) ⟨⟨_, _, rfl⟩, ⟨_, _, rfl⟩, ⟨_, _, rfl⟩, trivial⟩) rfl rfl rfl 23 _ (fun z => z = numsA .u8 l) (run_boxQ rfl hvp wn) rfl rfl hK'
    · obtain rfl := Option.some.inj ho
      have hvp : an.eval (.tmp 1) = .agg (numsA .u8 m) := hI.oldQ (by kernel_rfl) rfl
      exact hI.newQ (by kernel_rfl) hls (Nat.le_refl _) (newsQ_spec (l := [0, 1, 2]) (by kernel_rfl) ⟨⟨_, _, rfl⟩, ⟨_, _, rfl⟩, ⟨_, _, rfl⟩, trivial⟩) rfl rfl rfl 23 _ (fun z => z = numsA .u8 m) (run_boxQ rfl hvp wn) rfl rfl hK'
    · obtain rfl := Option.some.inj ho
      exact hI.newQ (by kernel_rfl) hls (Nat.le_refl _) (newsQ_spec (l := [0, 1, 2]) (by kernel_rfl) ⟨⟨_, _, rfl⟩, ⟨_, _, rfl⟩, ⟨_, _, rfl⟩, trivial⟩) rfl rfl rfl 23 _ (fun z => z = numsA .u8 zeroKL) (run_allocQ rfl zeroK_run wn) rfl rfl hK'
    · exact hi.elim
  · intro an w1 hI
    obtain ⟨vr0_0, hvr0_0, br0_0, zr0_0, rfl, hnr0_0, hbr0_0, hzr0_0⟩ := hI.haveQ 0 _ 2 (.blk ptrTo 23 (fun z => z = numsA .u8 l)) rfl rfl rfl rfl
    rw [hzr0_0] at hbr0_0
    clear hzr0_0
    obtain ⟨vr0_1, hvr0_1, br0_1, zr0_1, rfl, hnr0_1, hbr0_1, hzr0_1⟩ := hI.haveQ 1 _ 3 (.blk ptrTo 23 (fun z => z = numsA .u8 m)) rfl rfl rfl rfl
    rw [hzr0_1] at hbr0_1
    clear hzr0_1
    obtain ⟨vr0_2, hvr0_2, br0_2, zr0_2, rfl, hnr0_2, hbr0_2, hzr0_2⟩ := hI.haveQ 2 _ 4 (.blk ptrTo 23 (fun z => z = numsA .u8 zeroKL)) rfl rfl rfl rfl
    rw [hzr0_2] at hbr0_2
    clear hzr0_2
    have hupd := hI.upd
    have hner0_0_r0_1 := Lib.hid (show br0_0 ≠ br0_1 from fun e => hI.apart 0 1 _ _ 2 3 (by omega) rfl rfl rfl rfl rfl rfl rfl rfl (by rw [hvr0_0, hvr0_1, e]))
    have hner0_0_r0_2 := Lib.hid (show br0_0 ≠ br0_2 from fun e => hI.apart 0 2 _ _ 2 4 (by omega) rfl rfl rfl rfl rfl rfl rfl rfl (by rw [hvr0_0, hvr0_2, e]))
    have hner0_1_r0_2 := Lib.hid (show br0_1 ≠ br0_2 from fun e => hI.apart 1 2 _ _ 3 4 (by omega) rfl rfl rfl rfl rfl rfl rfl rfl (by rw [hvr0_1, hvr0_2, e]))
    have ha := hI.act [(2, ptrTo br0_0), (3, ptrTo br0_1), (4, ptrTo br0_2)] (by simp [hvr0_0, hvr0_1, hvr0_2]) (by kernel_rfl)
    clear hI hvr0_0 hvr0_1 hvr0_2
    subst ha
    simp only [List.foldl_cons, List.foldl_nil, List.setIfInBounds_toArray, List.set_cons_zero, List.set_cons_succ]
    have hger0_0 := Lib.hid (Nat.le_trans HU.out.size hnr0_0)
    have hger0_1 := Lib.hid (Nat.le_trans HU.out.size hnr0_1)
    have hger0_2 := Lib.hid (Nat.le_trans HU.out.size hnr0_2)
    have Bxr0y0 := Lib.hid hbr0_0
    have Bxr0y1 := Lib.hid hbr0_1
    have Bxr0y2 := Lib.hid hbr0_2
    have HU0 := Lib.hid (HU.out.trans hupd)
    clear hupd
    refine wpOps_nil ?_
    refine hK0 _ _ ?_
    clear hK0
    refine wp_seq_k fun K1 hK1 => ?_
    refine wp_region_qS 7 #[true, true, true, true, true, true, true, false] [7] ([.val (.pointer (some ⟨br0_0, 0 + 0, none⟩)), .val (.int .u8 (l.getD 0 0)), .val (.pointer (some ⟨br0_0, 0 + 0, none⟩)), .val (.int .u8 (l.getD 0 0)), .val (.int .u8 ((l.getD 0 0) % 8)), .val (.int .u8 ((l.getD 0 0) - ((l.getD 0 0) % 8))), .val (.pointer (some ⟨br0_0, 0 + 0, none⟩)), .val undef] : List SQ) (by kernel_rfl) (by kernel_rfl) (by kernel_rfl) ?_ ?_
    · intro i o listed an wn ho hls hst hun hdep hI hpre K' hK'
      have hi : i = 0 ∨ i = 1 ∨ i = 2 ∨ i = 3 ∨ i = 4 ∨ i = 5 ∨ i = 6 ∨ False := slot_cases (l := [0, 1, 2, 3, 4, 5, 6]) rfl ho hst
      rcases hi with rfl | rfl | rfl | rfl | rfl | rfl | rfl | hi
      · obtain rfl := Option.some.inj ho
        have hvp : an.eval (.tmp 2) = ptrTo br0_0 := hI.oldQ (by kernel_rfl) rfl
        exact hI.pureQ (by kernel_rfl) hls rfl rfl rfl (.pointer (some ⟨br0_0, 0 + 0, none⟩)) (run_adr (off := 0) (i := 0) rfl Tryd.underlying23 size5 hvp rfl (by omega) wn) (.val (.pointer (some ⟨br0_0, 0 + 0, none⟩))) rfl rfl rfl hK'
      · obtain rfl := Option.some.inj ho
        obtain ⟨vp, hvp, hsp⟩ := hI.haveQ 0 _ 12 (.val (.pointer (some ⟨br0_0, 0 + 0, none⟩))) rfl rfl rfl (hdep ⟨0, .data⟩ (by simp) rfl)
        obtain rfl := hsp
        exact hI.pureQ (by kernel_rfl) hls rfl rfl rfl (.int .u8 (l.getD 0 0)) (run_cellQ rfl Tryd.underlying5 (eval_of hvp) wn (hI.upd.blk (show Blk w1 br0_0 23 (numsA .u8 l) from Bxr0y0.out) (fun h => h)) (by rw [Nat.zero_add]; exact numsA_get _ _ _ (by rw [hl]; omega))) (.val (.int .u8 (l.getD 0 0))) rfl rfl rfl hK'
      · obtain rfl := Option.some.inj ho
        have hvp : an.eval (.tmp 2) = ptrTo br0_0 := hI.oldQ (by kernel_rfl) rfl
        exact hI.pureQ (by kernel_rfl) hls rfl rfl rfl (.pointer (some ⟨br0_0, 0 + 0, none⟩)) (run_adr (off := 0) (i := 0) rfl Tryd.underlying23 size5 hvp rfl (by omega) wn) (.val (.pointer (some ⟨br0_0, 0 + 0, none⟩))) rfl rfl rfl hK'
      · obtain rfl := Option.some.inj ho
        obtain ⟨vp, hvp, hsp⟩ := hI.haveQ 2 _ 14 (.val (.pointer (some ⟨br0_0, 0 + 0, none⟩))) rfl rfl rfl (hdep ⟨2, .data⟩ (by simp) rfl)
        obtain rfl := hsp
        exact hI.pureQ (by kernel_rfl) hls rfl rfl rfl (.int .u8 (l.getD 0 0)) (run_cellQ rfl Tryd.underlying5 (eval_of hvp) wn (hI.upd.blk (show Blk w1 br0_0 23 (numsA .u8 l) from Bxr0y0.out) (fun h => h)) (by rw [Nat.zero_add]; exact numsA_get _ _ _ (by rw [hl]; omega))) (.val (.int .u8 (l.getD 0 0))) rfl rfl rfl hK'
      · obtain rfl := Option.some.inj ho
        obtain ⟨vp, hvp, hsp⟩ := hI.haveQ 3 _ 15 (.val (.int .u8 (l.getD 0 0))) rfl rfl rfl (hdep ⟨3, .data⟩ (by simp) rfl)
        obtain rfl := hsp
        exact hI.pureQ (by kernel_rfl) hls rfl rfl rfl (.int .u8 ((l.getD 0 0) % 8)) (run_rem rfl (eval_of hvp) rfl (by decide) (Int.tmod_eq_emod_of_nonneg (Digs.get (B := 256) (by decide) hd _).1) wn) (.val (.int .u8 ((l.getD 0 0) % 8))) rfl rfl rfl hK'
      · obtain rfl := Option.some.inj ho
        obtain ⟨vp, hvp, hsp⟩ := hI.haveQ 1 _ 13 (.val (.int .u8 (l.getD 0 0))) rfl rfl rfl (hdep ⟨1, .data⟩ (by simp) rfl)
        obtain rfl := hsp
        obtain ⟨vq, hvq, hsq⟩ := hI.haveQ 4 _ 16 (.val (.int .u8 ((l.getD 0 0) % 8))) rfl rfl rfl (hdep ⟨4, .data⟩ (by simp) rfl)
        obtain rfl := hsq
        exact hI.pureQ (by kernel_rfl) hls rfl rfl rfl (.int .u8 ((l.getD 0 0) - ((l.getD 0 0) % 8))) (run_sub rfl (eval_of hvp) (eval_of hvq) (IntWalk.u8_in _ (by omega)) wn) (.val (.int .u8 ((l.getD 0 0) - ((l.getD 0 0) % 8)))) rfl rfl rfl hK'
      · obtain rfl := Option.some.inj ho
        have hvp : an.eval (.tmp 2) = ptrTo br0_0 := hI.oldQ (by kernel_rfl) rfl
        exact hI.pureQ (by kernel_rfl) hls rfl rfl rfl (.pointer (some ⟨br0_0, 0 + 0, none⟩)) (run_adr (off := 0) (i := 0) rfl Tryd.underlying23 size5 hvp rfl (by omega) wn) (.val (.pointer (some ⟨br0_0, 0 + 0, none⟩))) rfl rfl rfl hK'
      · exact hi.elim
    · intro an w2 hI
      obtain ⟨vr1_0, hvr1_0, hsr1_0⟩ := hI.haveQ 0 _ 12 (.val (.pointer (some ⟨br0_0, 0 + 0, none⟩))) rfl rfl rfl rfl
      obtain rfl := hsr1_0
      obtain ⟨vr1_1, hvr1_1, hsr1_1⟩ := hI.haveQ 1 _ 13 (.val (.int .u8 (l.getD 0 0))) rfl rfl rfl rfl
      obtain rfl := hsr1_1
      obtain ⟨vr1_2, hvr1_2, hsr1_2⟩ := hI.haveQ 2 _ 14 (.val (.pointer (some ⟨br0_0, 0 + 0, none⟩))) rfl rfl rfl rfl
      obtain rfl := hsr1_2
      obtain ⟨vr1_3, hvr1_3, hsr1_3⟩ := hI.haveQ 3 _ 15 (.val (.int .u8 (l.getD 0 0))) rfl rfl rfl rfl
      obtain rfl := hsr1_3
      obtain ⟨vr1_4, hvr1_4, hsr1_4⟩ := hI.haveQ 4 _ 16 (.val (.int .u8 ((l.getD 0 0) % 8))) rfl rfl rfl rfl
      obtain rfl := hsr1_4
      obtain ⟨vr1_5, hvr1_5, hsr1_5⟩ := hI.haveQ 5 _ 17 (.val (.int .u8 ((l.getD 0 0) - ((l.getD 0 0) % 8)))) rfl rfl rfl rfl
      obtain rfl := hsr1_5
      obtain ⟨vr1_6, hvr1_6, hsr1_6⟩ := hI.haveQ 6 _ 18 (.val (.pointer (some ⟨br0_0, 0 + 0, none⟩))) rfl rfl rfl rfl
      obtain rfl := hsr1_6
      have hupd := hI.upd
      have ha := hI.act [(12, .pointer (some ⟨br0_0, 0 + 0, none⟩)), (13, .int .u8 (l.getD 0 0)), (14, .pointer (some ⟨br0_0, 0 + 0, none⟩)), (15, .int .u8 (l.getD 0 0)), (16, .int .u8 ((l.getD 0 0) % 8)), (17, .int .u8 ((l.getD 0 0) - ((l.getD 0 0) % 8))), (18, .pointer (some ⟨br0_0, 0 + 0, none⟩))] (by simp [hvr1_0, hvr1_1, hvr1_2, hvr1_3, hvr1_4, hvr1_5, hvr1_6]) (by kernel_rfl)
      clear hI hvr1_0 hvr1_1 hvr1_2 hvr1_3 hvr1_4 hvr1_5 hvr1_6
      subst ha
      simp only [List.foldl_cons, List.foldl_nil, List.setIfInBounds_toArray, List.set_cons_zero, List.set_cons_succ]
      have Bxr0y0_1 := Lib.hid (hupd.blk (show Blk w1 br0_0 23 (numsA .u8 l) from Bxr0y0.out) (fun h => h))
      have Bxr0y1_1 := Lib.hid (hupd.blk (show Blk w1 br0_1 23 (numsA .u8 m) from Bxr0y1.out) (fun h => h))
      have Bxr0y2_1 := Lib.hid (hupd.blk (show Blk w1 br0_2 23 (numsA .u8 zeroKL) from Bxr0y2.out) (fun h => h))
      have HU1 := Lib.hid (HU0.out.trans hupd)
      clear hupd
      refine wpOps_storeB 7 rfl rfl rfl 5 (.tmp 18) (.tmp 17) rfl size5 br0_0 (0 + 0) rfl ((l.getD 0 0) - ((l.getD 0 0) % 8)) rfl 23 l Bxr0y0_1.out (by rw [hl]; omega) ?_
      rw [Nat.zero_add]
      intro ws1_0 hs1_0 hus1_0
      have Bxr0y1_s1_0 := Lib.hid (hus1_0.blk Bxr0y1_1.out (fun e => hner0_0_r0_1.out e.symm))
      have Bxr0y2_s1_0 := Lib.hid (hus1_0.blk Bxr0y2_1.out (fun e => hner0_0_r0_2.out e.symm))
      have Bxr0y0_s1_0 := Lib.hid hs1_0
      have HU1_0 := Lib.hid (HU1.out.step hus1_0 (fun i hi h => absurd hi (Nat.not_lt.2 (h.symm ▸ hger0_0.out))))
      clear hs1_0 hus1_0
      refine wpOps_nil ?_
      refine hK1 _ _ ?_
      clear hK1
      refine wp_seq_k fun K2 hK2 => ?_
      refine wp_region_qS 5 #[true, true, true, true, true, false] [5] ([.val (.pointer (some ⟨br0_0, 0 + 31, none⟩)), .val (.int .u8 ((l.set 0 ((l.getD 0 0) - ((l.getD 0 0) % 8))).getD 31 0)), .val (.int .u8 (((l.set 0 ((l.getD 0 0) - ((l.getD 0 0) % 8))).getD 31 0) % 64)), .val (.int .u8 ((((l.set 0 ((l.getD 0 0) - ((l.getD 0 0) % 8))).getD 31 0) % 64) + 64)), .val (.pointer (some ⟨br0_0, 0 + 31, none⟩)), .val undef] : List SQ) (by kernel_rfl) (by kernel_rfl) (by kernel_rfl) ?_ ?_
      · intro i o listed an wn ho hls hst hun hdep hI hpre K' hK'
        have hi : i = 0 ∨ i = 1 ∨ i = 2 ∨ i = 3 ∨ i = 4 ∨ False := slot_cases (l := [0, 1, 2, 3, 4]) rfl ho hst
        rcases hi with rfl | rfl | rfl | rfl | rfl | hi
        · obtain rfl := Option.some.inj ho
          have hvp : an.eval (.tmp 2) = ptrTo br0_0 := hI.oldQ (by kernel_rfl) rfl
          exact hI.pureQ (by kernel_rfl) hls rfl rfl rfl (.pointer (some ⟨br0_0, 0 + 31, none⟩)) (run_adr (off := 0) (i := 31) rfl Tryd.underlying23 size5 hvp rfl (by omega) wn) (.val (.pointer (some ⟨br0_0, 0 + 31, none⟩))) rfl rfl rfl hK'
        · obtain rfl := Option.some.inj ho
          obtain ⟨vp, hvp, hsp⟩ := hI.haveQ 0 _ 19 (.val (.pointer (some ⟨br0_0, 0 + 31, none⟩))) rfl rfl rfl (hdep ⟨0, .data⟩ (by simp) rfl)
          obtain rfl := hsp
          exact hI.pureQ (by kernel_rfl) hls rfl rfl rfl (.int .u8 ((l.set 0 ((l.getD 0 0) - ((l.getD 0 0) % 8))).getD 31 0)) (run_cellQ rfl Tryd.underlying5 (eval_of hvp) wn (hI.upd.blk (show Blk ws1_0 br0_0 23 (numsA .u8 (l.set 0 ((l.getD 0 0) - ((l.getD 0 0) % 8)))) from Bxr0y0_s1_0.out) (fun h => h)) (by rw [Nat.zero_add]; exact numsA_get _ _ _ (by rw [(set_length hl _ _)]; omega))) (.val (.int .u8 ((l.set 0 ((l.getD 0 0) - ((l.getD 0 0) % 8))).getD 31 0))) rfl rfl rfl hK'
        · obtain rfl := Option.some.inj ho
          obtain ⟨vp, hvp, hsp⟩ := hI.haveQ 1 _ 20 (.val (.int .u8 ((l.set 0 ((l.getD 0 0) - ((l.getD 0 0) % 8))).getD 31 0))) rfl rfl rfl (hdep ⟨1, .data⟩ (by simp) rfl)
          obtain rfl := hsp
          exact hI.pureQ (by kernel_rfl) hls rfl rfl rfl (.int .u8 (((l.set 0 ((l.getD 0 0) - ((l.getD 0 0) % 8))).getD 31 0) % 64)) (run_rem rfl (eval_of hvp) rfl (by decide) (Int.tmod_eq_emod_of_nonneg (Digs.get (B := 256) (by decide) (digs_set hd _ _ h0.1 h0.2) _).1) wn) (.val (.int .u8 (((l.set 0 ((l.getD 0 0) - ((l.getD 0 0) % 8))).getD 31 0) % 64))) rfl rfl rfl hK'
        · obtain rfl := Option.some.inj ho
          obtain ⟨vp, hvp, hsp⟩ := hI.haveQ 2 _ 21 (.val (.int .u8 (((l.set 0 ((l.getD 0 0) - ((l.getD 0 0) % 8))).getD 31 0) % 64))) rfl rfl rfl (hdep ⟨2, .data⟩ (by simp) rfl)
          obtain rfl := hsp
          exact hI.pureQ (by kernel_rfl) hls rfl rfl rfl (.int .u8 ((((l.set 0 ((l.getD 0 0) - ((l.getD 0 0) % 8))).getD 31 0) % 64) + 64)) (run_add rfl (eval_of hvp) rfl (IntWalk.u8_in _ (by omega)) wn) (.val (.int .u8 ((((l.set 0 ((l.getD 0 0) - ((l.getD 0 0) % 8))).getD 31 0) % 64) + 64))) rfl rfl rfl hK'
        · obtain rfl := Option.some.inj ho
          have hvp : an.eval (.tmp 2) = ptrTo br0_0 := hI.oldQ (by kernel_rfl) rfl
          exact hI.pureQ (by kernel_rfl) hls rfl rfl rfl (.pointer (some ⟨br0_0, 0 + 31, none⟩)) (run_adr (off := 0) (i := 31) rfl Tryd.underlying23 size5 hvp rfl (by omega) wn) (.val (.pointer (some ⟨br0_0, 0 + 31, none⟩))) rfl rfl rfl hK'
        · exact hi.elim
      · intro an w3 hI
        obtain ⟨vr2_0, hvr2_0, hsr2_0⟩ := hI.haveQ 0 _ 19 (.val (.pointer (some ⟨br0_0, 0 + 31, none⟩))) rfl rfl rfl rfl
        obtain rfl := hsr2_0
        obtain ⟨vr2_1, hvr2_1, hsr2_1⟩ := hI.haveQ 1 _ 20 (.val (.int .u8 ((l.set 0 ((l.getD 0 0) - ((l.getD 0 0) % 8))).getD 31 0))) rfl rfl rfl rfl
        obtain rfl := hsr2_1
        obtain ⟨vr2_2, hvr2_2, hsr2_2⟩ := hI.haveQ 2 _ 21 (.val (.int .u8 (((l.set 0 ((l.getD 0 0) - ((l.getD 0 0) % 8))).getD 31 0) % 64))) rfl rfl rfl rfl
        obtain rfl := hsr2_2
        obtain ⟨vr2_3, hvr2_3, hsr2_3⟩ := hI.haveQ 3 _ 22 (.val (.int .u8 ((((l.set 0 ((l.getD 0 0) - ((l.getD 0 0) % 8))).getD 31 0) % 64) + 64))) rfl rfl rfl rfl
        obtain rfl := hsr2_3
        obtain ⟨vr2_4, hvr2_4, hsr2_4⟩ := hI.haveQ 4 _ 23 (.val (.pointer (some ⟨br0_0, 0 + 31, none⟩))) rfl rfl rfl rfl
        obtain rfl := hsr2_4
        have hupd := hI.upd
        have ha := hI.act [(19, .pointer (some ⟨br0_0, 0 + 31, none⟩)), (20, .int .u8 ((l.set 0 ((l.getD 0 0) - ((l.getD 0 0) % 8))).getD 31 0)), (21, .int .u8 (((l.set 0 ((l.getD 0 0) - ((l.getD 0 0) % 8))).getD 31 0) % 64)), (22, .int .u8 ((((l.set 0 ((l.getD 0 0) - ((l.getD 0 0) % 8))).getD 31 0) % 64) + 64)), (23, .pointer (some ⟨br0_0, 0 + 31, none⟩))] (by simp [hvr2_0, hvr2_1, hvr2_2, hvr2_3, hvr2_4]) (by kernel_rfl)
        clear hI hvr2_0 hvr2_1 hvr2_2 hvr2_3 hvr2_4
        subst ha
        simp only [List.foldl_cons, List.foldl_nil, List.setIfInBounds_toArray, List.set_cons_zero, List.set_cons_succ]
        have Bxr0y0_2 := Lib.hid (hupd.blk (show Blk ws1_0 br0_0 23 (numsA .u8 (l.set 0 ((l.getD 0 0) - ((l.getD 0 0) % 8)))) from Bxr0y0_s1_0.out) (fun h => h))
        have Bxr0y1_2 := Lib.hid (hupd.blk (show Blk ws1_0 br0_1 23 (numsA .u8 m) from Bxr0y1_s1_0.out) (fun h => h))
        have Bxr0y2_2 := Lib.hid (hupd.blk (show Blk ws1_0 br0_2 23 (numsA .u8 zeroKL) from Bxr0y2_s1_0.out) (fun h => h))
        have HU2 := Lib.hid (HU1_0.out.trans hupd)
        clear hupd
        refine wpOps_storeB 5 rfl rfl rfl 5 (.tmp 23) (.tmp 22) rfl size5 br0_0 (0 + 31) rfl ((((l.set 0 ((l.getD 0 0) - ((l.getD 0 0) % 8))).getD 31 0) % 64) + 64) rfl 23 (l.set 0 ((l.getD 0 0) - ((l.getD 0 0) % 8))) Bxr0y0_2.out (by rw [(set_length hl _ _)]; omega) ?_
        rw [Nat.zero_add]
        intro ws2_0 hs2_0 hus2_0
        have Bxr0y1_s2_0 := Lib.hid (hus2_0.blk Bxr0y1_2.out (fun e => hner0_0_r0_1.out e.symm))
        have Bxr0y2_s2_0 := Lib.hid (hus2_0.blk Bxr0y2_2.out (fun e => hner0_0_r0_2.out e.symm))
        rw [(show ((l.set 0 ((l.getD 0 0) - ((l.getD 0 0) % 8))).set 31 ((((l.set 0 ((l.getD 0 0) - ((l.getD 0 0) % 8))).getD 31 0) % 64) + 64)) = clampL l from clamp_ref)] at hs2_0
        have Bxr0y0_s2_0 := Lib.hid hs2_0
        have HU2_0 := Lib.hid (HU2.out.step hus2_0 (fun i hi h => absurd hi (Nat.not_lt.2 (h.symm ▸ hger0_0.out))))
        clear hs2_0 hus2_0
        refine wpOps_nil ?_
        refine hK2 _ _ ?_
        clear hK2
        refine wp_seq_k fun K3 hK3 => ?_
        refine wp_region_qS 3 #[true, true, true, false] [3] ([.val (.agg (numsA .u8 m)), .like (IsC 16 RN [ofKey m]), .blk ptrTo 45 (Ch 16 RN [0]), .val undef] : List SQ) (by kernel_rfl) (by kernel_rfl) (by kernel_rfl) ?_ ?_
        · intro i o listed an wn ho hls hst hun hdep hI hpre K' hK'
          have hi : i = 0 ∨ i = 1 ∨ i = 2 ∨ False := slot_cases (l := [0, 1, 2]) rfl ho hst
          rcases hi with rfl | rfl | rfl | hi
          · obtain rfl := Option.some.inj ho
            have hvp : an.eval (.tmp 3) = ptrTo br0_1 := hI.oldQ (by kernel_rfl) rfl
            exact hI.pureQ (by kernel_rfl) hls rfl rfl rfl _ (run_loadQ rfl hvp wn (hI.upd.blk (show Blk ws2_0 br0_1 23 (numsA .u8 m) from Bxr0y1_s2_0.out) (fun h => h)) Tryd.underlying23 rfl sizeKey (by rw [numsA_size, hm]; omega)) (.val (.agg (numsA .u8 m))) rfl (congrArg Value.agg (extract_all _ 32 (by rw [numsA_size]; exact hm))) rfl hK'
          · obtain rfl := Option.some.inj ho
            obtain ⟨vp, hvp, hsp⟩ := hI.haveQ 0 _ 24 (.val (.agg (numsA .u8 m))) rfl rfl rfl (hdep ⟨0, .data⟩ (by simp) rfl)
            obtain rfl := hsp
            exact hI.callQ (by kernel_rfl) hls rfl rfl rfl 53 #[.tmp 24] _ rfl #[.agg (numsA .u8 m)] (by simp [eval_of hvp]) (run_enter Tryd.func53 (by kernel_rfl) (by kernel_rfl)) (.like (IsC 16 RN [ofKey m])) rfl rfl ((rOfE m (hm) (hn)).mono fun _ _ h => h.sq) hK'
          · obtain rfl := Option.some.inj ho
            exact hI.newQ (by kernel_rfl) hls (Nat.le_refl _) (newsQ_spec (l := [2]) (by kernel_rfl) ⟨⟨_, _, rfl⟩, trivial⟩) rfl rfl rfl 45 zeroN _ (run_allocQ rfl zN_run wn) rfl zN_ch hK'
          · exact hi.elim
        · intro an w4 hI
          obtain ⟨vr3_0, hvr3_0, hsr3_0⟩ := hI.haveQ 0 _ 24 (.val (.agg (numsA .u8 m))) rfl rfl rfl rfl
          obtain rfl := hsr3_0
          obtain ⟨vr3_1, hvr3_1, ar3_1, rfl, hCr3_1⟩ := hI.haveQ 1 _ 25 (.like (IsC 16 RN [ofKey m])) rfl rfl rfl rfl
          obtain ⟨vr3_2, hvr3_2, br3_2, zr3_2, rfl, hnr3_2, hbr3_2, hzr3_2⟩ := hI.haveQ 2 _ 5 (.blk ptrTo 45 (Ch 16 RN [0])) rfl rfl rfl rfl
          have hupd := hI.upd
          have ha := hI.act [(24, .agg (numsA .u8 m)), (25, .agg ar3_1), (5, ptrTo br3_2)] (by simp [hvr3_0, hvr3_1, hvr3_2]) (by kernel_rfl)
          clear hI hvr3_0 hvr3_1 hvr3_2
          subst ha
          simp only [List.foldl_cons, List.foldl_nil, List.setIfInBounds_toArray, List.set_cons_zero, List.set_cons_succ]
          have hner3_2_Bxr0y0_s2_0 := Lib.hid (show br3_2 ≠ br0_0 from Nat.ne_of_gt (Nat.lt_of_lt_of_le Bxr0y0_s2_0.out.lt hnr3_2))
          have hner3_2_Bxr0y1_s2_0 := Lib.hid (show br3_2 ≠ br0_1 from Nat.ne_of_gt (Nat.lt_of_lt_of_le Bxr0y1_s2_0.out.lt hnr3_2))
          have hner3_2_Bxr0y2_s2_0 := Lib.hid (show br3_2 ≠ br0_2 from Nat.ne_of_gt (Nat.lt_of_lt_of_le Bxr0y2_s2_0.out.lt hnr3_2))
          have hger3_2 := Lib.hid (Nat.le_trans HU2_0.out.size hnr3_2)
          have Bxr0y0_3 := Lib.hid (hupd.blk (show Blk ws2_0 br0_0 23 (numsA .u8 (clampL l)) from Bxr0y0_s2_0.out) (fun h => h))
          have Bxr0y1_3 := Lib.hid (hupd.blk (show Blk ws2_0 br0_1 23 (numsA .u8 m) from Bxr0y1_s2_0.out) (fun h => h))
          have Bxr0y2_3 := Lib.hid (hupd.blk (show Blk ws2_0 br0_2 23 (numsA .u8 zeroKL) from Bxr0y2_s2_0.out) (fun h => h))
          have Bxr3y2 := Lib.hid hbr3_2
          have HU3 := Lib.hid (HU2_0.out.trans hupd)
          clear hupd
          refine wpOps_storeQ 3 rfl rfl rfl 45 (.tmp 5) (.tmp 25) rfl br3_2 0 16 rfl ar3_1 rfl 45 zr3_2 Bxr3y2.out szN hCr3_1.size (by rw [hzr3_2.size]; exact Nat.le_of_ble_eq_true rfl) hCr3_1.one' ?_
          intro ws3_0 hs3_0 hus3_0
          rw [splice_all _ _ 16 hzr3_2.size hCr3_1.size] at hs3_0
          have Bxr0y0_s3_0 := Lib.hid (hus3_0.blk Bxr0y0_3.out (fun e => hner3_2_Bxr0y0_s2_0.out e.symm))
          have Bxr0y1_s3_0 := Lib.hid (hus3_0.blk Bxr0y1_3.out (fun e => hner3_2_Bxr0y1_s2_0.out e.symm))
          have Bxr0y2_s3_0 := Lib.hid (hus3_0.blk Bxr0y2_3.out (fun e => hner3_2_Bxr0y2_s2_0.out e.symm))
          have Bxr3y2_s3_0 := Lib.hid hs3_0
          have HU3_0 := Lib.hid (HU3.out.step hus3_0 (fun i hi h => absurd hi (Nat.not_lt.2 (h.symm ▸ hger3_2.out))))
          clear hs3_0 hus3_0
          refine wpOps_nil ?_
          refine hK3 _ _ ?_
          clear hK3
          refine wp_seq_k fun K4 hK4 => ?_
          refine wp_region_r #[true, true, true, true, true, true, true, true, true] ([.like (IsC 16 RN [fv 1]), .like (IsC 16 RN [fv 1, 0]), .val (.agg ar3_1), .like (IsC 16 RN [fv 1]), .like (IsC 16 RN [ofKey m, fv 1]), .new 80 32, .new 80 32, .val undef, .val undef] : List SR) ([none, none, none, none, none, none, none, some ⟨6, 5, 80, Ch 16 RN [fv 1, 0]⟩, some ⟨7, 6, 80, Ch 16 RN [ofKey m, fv 1]⟩] : List (Option St)) (by kernel_rfl) (by kernel_rfl) (by kernel_rfl) ?_ ?_
          · intro i o listed an wn ho hls hst hun hdep hI K' hK'
            have hi : i = 0 ∨ i = 1 ∨ i = 2 ∨ i = 3 ∨ i = 4 ∨ i = 5 ∨ i = 6 ∨ i = 7 ∨ i = 8 ∨ False := slot_cases (l := [0, 1, 2, 3, 4, 5, 6, 7, 8]) rfl ho hst
            rcases hi with rfl | rfl | rfl | rfl | rfl | rfl | rfl | rfl | rfl | hi
            · obtain rfl := Option.some.inj ho
              exact hI.call (by kernel_rfl) (by kernel_rfl) hls hun rfl rfl rfl 54 #[.const (.int .u64 1)] _ rfl #[.int .u64 1] (by simp [Act.eval]) (run_enter Tryd.func54 (by kernel_rfl) (by kernel_rfl)) (.like (IsC 16 RN [fv 1])) rfl rfl ((rSmallE 1 (by decide) (by decide)).mono fun _ _ h => h.sr) hK'
            · obtain rfl := Option.some.inj ho
              obtain ⟨vp, hvp, ap, rfl, hCp⟩ := hI.have 0 _ 26 (.like (IsC 16 RN [fv 1])) rfl rfl rfl (hdep ⟨0, .data⟩ (by simp) rfl)
              exact hI.pure (by kernel_rfl) (by kernel_rfl) hls hun rfl rfl rfl _ (run_buildR50 rfl (eval_of hvp) hCp.size wn) (.like (IsC 16 RN [fv 1, 0])) rfl ⟨_, rfl, (hCp.cat zN_ch)⟩ rfl hK'
            · obtain rfl := Option.some.inj ho
              have hvp : an.eval (.tmp 5) = ptrTo br3_2 := hI.old (by kernel_rfl) rfl
              exact hI.pure (by kernel_rfl) (by kernel_rfl) hls hun rfl rfl rfl _ (run_loadQ rfl hvp wn (hI.sl.upd.blk (show Blk ws3_0.drew br3_2 45 ar3_1 from Bxr3y2_s3_0.out) (fun h => h)) Tryd.underlying45 rfl szN (by rw [hCr3_1.size]; exact Nat.le_of_ble_eq_true rfl)) (.val (.agg ar3_1)) rfl (congrArg Value.agg (extract_all _ 16 hCr3_1.size)) rfl hK'
            · obtain rfl := Option.some.inj ho
              exact hI.call (by kernel_rfl) (by kernel_rfl) hls hun rfl rfl rfl 54 #[.const (.int .u64 1)] _ rfl #[.int .u64 1] (by simp [Act.eval]) (run_enter Tryd.func54 (by kernel_rfl) (by kernel_rfl)) (.like (IsC 16 RN [fv 1])) rfl rfl ((rSmallE 1 (by decide) (by decide)).mono fun _ _ h => h.sr) hK'
            · obtain rfl := Option.some.inj ho
              obtain ⟨vp, hvp, hsp⟩ := hI.have 2 _ 28 (.val (.agg ar3_1)) rfl rfl rfl (hdep ⟨2, .data⟩ (by simp) rfl)
              obtain rfl := hsp
              obtain ⟨vq, hvq, aq, rfl, hCq⟩ := hI.have 3 _ 29 (.like (IsC 16 RN [fv 1])) rfl rfl rfl (hdep ⟨3, .data⟩ (by simp) rfl)
              exact hI.pure (by kernel_rfl) (by kernel_rfl) hls hun rfl rfl rfl _ (run_buildR5 rfl (eval_of hvp) (eval_of hvq) hCr3_1.size hCq.size wn) (.like (IsC 16 RN [ofKey m, fv 1])) rfl ⟨_, rfl, (hCr3_1.cat hCq)⟩ rfl hK'
            · obtain rfl := Option.some.inj ho
              exact hI.new (by kernel_rfl) (by kernel_rfl) hls hun (newsR_spec (l := [5, 6]) (by kernel_rfl) ⟨⟨_, _, rfl⟩, ⟨_, _, rfl⟩, trivial⟩) rfl rfl rfl 80 zR5 (run_allocQ rfl zR5_run wn) rfl hK'
            · obtain rfl := Option.some.inj ho
              exact hI.new (by kernel_rfl) (by kernel_rfl) hls hun (newsR_spec (l := [5, 6]) (by kernel_rfl) ⟨⟨_, _, rfl⟩, ⟨_, _, rfl⟩, trivial⟩) rfl rfl rfl 80 zR5 (run_allocQ rfl zR5_run wn) rfl hK'
            · obtain rfl := Option.some.inj ho
              obtain ⟨vp, hvp, ap, rfl, hCp⟩ := hI.have 1 _ 27 (.like (IsC 16 RN [fv 1, 0])) rfl rfl rfl (hdep ⟨1, .data⟩ (by simp) rfl)
              exact hI.store (by kernel_rfl) hls hdep rfl rfl rfl ⟨6, 5, 80, Ch 16 RN [fv 1, 0]⟩ rfl ⟨5, .data⟩ (by simp) rfl rfl 32 rfl 80 (.tmp 27) rfl ap (eval_of hvp) szR5 hCp.size hCp.one' hCp hK'
            · obtain rfl := Option.some.inj ho
              obtain ⟨vp, hvp, ap, rfl, hCp⟩ := hI.have 4 _ 30 (.like (IsC 16 RN [ofKey m, fv 1])) rfl rfl rfl (hdep ⟨4, .data⟩ (by simp) rfl)
              exact hI.store (by kernel_rfl) hls hdep rfl rfl rfl ⟨7, 6, 80, Ch 16 RN [ofKey m, fv 1]⟩ rfl ⟨6, .data⟩ (by simp) rfl rfl 32 rfl 80 (.tmp 30) rfl ap (eval_of hvp) szR5 hCp.size hCp.one' hCp hK'
            · exact hi.elim
          · intro fuel an w5 hf hI
            obtain ⟨vr4_0, hvr4_0, ar4_0, rfl, hCr4_0⟩ := hI.have 0 _ 26 (.like (IsC 16 RN [fv 1])) rfl rfl rfl rfl
            obtain ⟨vr4_1, hvr4_1, ar4_1, rfl, hCr4_1⟩ := hI.have 1 _ 27 (.like (IsC 16 RN [fv 1, 0])) rfl rfl rfl rfl
            obtain ⟨vr4_2, hvr4_2, hsr4_2⟩ := hI.have 2 _ 28 (.val (.agg ar3_1)) rfl rfl rfl rfl
            obtain rfl := hsr4_2
            obtain ⟨vr4_3, hvr4_3, ar4_3, rfl, hCr4_3⟩ := hI.have 3 _ 29 (.like (IsC 16 RN [fv 1])) rfl rfl rfl rfl
            obtain ⟨vr4_4, hvr4_4, ar4_4, rfl, hCr4_4⟩ := hI.have 4 _ 30 (.like (IsC 16 RN [ofKey m, fv 1])) rfl rfl rfl rfl
            obtain ⟨vr4_5, hvr4_5, br4_5, zr4_5, rfl, hnr4_5, hbr4_5, hzr4_5⟩ := hI.have 5 _ 6 (.new 80 32) rfl rfl rfl rfl
            obtain ⟨vr4_6, hvr4_6, br4_6, zr4_6, rfl, hnr4_6, hbr4_6, hzr4_6⟩ := hI.have 6 _ 7 (.new 80 32) rfl rfl rfl rfl
            obtain ⟨-, cr4_7, yr4_7, hpr4_7, hBr4_7, hyr4_7⟩ := hI.mem 7 ⟨6, 5, 80, Ch 16 RN [fv 1, 0]⟩ rfl rfl
            obtain rfl := ptr_inj (hvr4_5.symm.trans hpr4_7)
            obtain ⟨-, cr4_8, yr4_8, hpr4_8, hBr4_8, hyr4_8⟩ := hI.mem 8 ⟨7, 6, 80, Ch 16 RN [ofKey m, fv 1]⟩ rfl rfl
            obtain rfl := ptr_inj (hvr4_6.symm.trans hpr4_8)
            have hupd := hI.sl.upd
            have hner4_5_r4_6 := Lib.hid (show cr4_7 ≠ cr4_8 from fun e => hI.sl.apart 5 6 _ _ 6 7 (by omega) rfl rfl rfl rfl rfl rfl rfl rfl (by rw [hvr4_5, hvr4_6, e]))
            have ha := hI.sl.act [(26, .agg ar4_0), (27, .agg ar4_1), (28, .agg ar3_1), (29, .agg ar4_3), (30, .agg ar4_4), (6, ptrTo cr4_7), (7, ptrTo cr4_8)] (by simp [hvr4_0, hvr4_1, hvr4_2, hvr4_3, hvr4_4, hvr4_5, hvr4_6]) (by kernel_rfl)
            clear hI
            subst ha
            simp only [List.foldl_cons, List.foldl_nil, List.setIfInBounds_toArray, List.set_cons_zero, List.set_cons_succ]
            have hner4_5_Bxr0y0_s3_0 := Lib.hid (show cr4_7 ≠ br0_0 from Nat.ne_of_gt (Nat.lt_of_lt_of_le Bxr0y0_s3_0.out.lt hnr4_5))
            have hner4_5_Bxr0y1_s3_0 := Lib.hid (show cr4_7 ≠ br0_1 from Nat.ne_of_gt (Nat.lt_of_lt_of_le Bxr0y1_s3_0.out.lt hnr4_5))
            have hner4_5_Bxr0y2_s3_0 := Lib.hid (show cr4_7 ≠ br0_2 from Nat.ne_of_gt (Nat.lt_of_lt_of_le Bxr0y2_s3_0.out.lt hnr4_5))
            have hner4_5_Bxr3y2_s3_0 := Lib.hid (show cr4_7 ≠ br3_2 from Nat.ne_of_gt (Nat.lt_of_lt_of_le Bxr3y2_s3_0.out.lt hnr4_5))
            have hger4_5 := Lib.hid (Nat.le_trans HU3_0.out.size hnr4_5)
            have hner4_6_Bxr0y0_s3_0 := Lib.hid (show cr4_8 ≠ br0_0 from Nat.ne_of_gt (Nat.lt_of_lt_of_le Bxr0y0_s3_0.out.lt hnr4_6))
            have hner4_6_Bxr0y1_s3_0 := Lib.hid (show cr4_8 ≠ br0_1 from Nat.ne_of_gt (Nat.lt_of_lt_of_le Bxr0y1_s3_0.out.lt hnr4_6))
            have hner4_6_Bxr0y2_s3_0 := Lib.hid (show cr4_8 ≠ br0_2 from Nat.ne_of_gt (Nat.lt_of_lt_of_le Bxr0y2_s3_0.out.lt hnr4_6))
            have hner4_6_Bxr3y2_s3_0 := Lib.hid (show cr4_8 ≠ br3_2 from Nat.ne_of_gt (Nat.lt_of_lt_of_le Bxr3y2_s3_0.out.lt hnr4_6))
            have hger4_6 := Lib.hid (Nat.le_trans HU3_0.out.size hnr4_6)
            have Bxr0y0_4 := Lib.hid (hupd.blk (show Blk ws3_0.drew br0_0 23 (numsA .u8 (clampL l)) from Bxr0y0_s3_0.out) (fun h => h))
            have Bxr0y1_4 := Lib.hid (hupd.blk (show Blk ws3_0.drew br0_1 23 (numsA .u8 m) from Bxr0y1_s3_0.out) (fun h => h))
            have Bxr0y2_4 := Lib.hid (hupd.blk (show Blk ws3_0.drew br0_2 23 (numsA .u8 zeroKL) from Bxr0y2_s3_0.out) (fun h => h))
            have Bxr3y2_4 := Lib.hid (hupd.blk (show Blk ws3_0.drew br3_2 45 ar3_1 from Bxr3y2_s3_0.out) (fun h => h))
            have Bxr4y5 := Lib.hid hBr4_7
            have Bxr4y6 := Lib.hid hBr4_8
            have HU4 := Lib.hid (HU3_0.out.drew.trans hupd)
            clear hupd
            refine wpAny_done (by kernel_rfl) ?_ _
            refine hK4 _ _ ?_
            clear hK4
            refine wp_seq_k fun K5 hK5 => ?_
            refine wp_seq_k fun K6 hK6 => ?_
            refine wp_region_qS 1 #[true] [] ([.val (.int .i64 255)] : List SQ) (by kernel_rfl) (by kernel_rfl) (by kernel_rfl) ?_ ?_
            · intro i o listed an wn ho hls hst hun hdep hI hpre K' hK'
              have hi : i = 0 ∨ False := slot_cases (l := [0]) rfl ho hst
              rcases hi with rfl | hi
              · obtain rfl := Option.some.inj ho
                exact hI.pureQ (by kernel_rfl) hls rfl rfl rfl (.int .i64 255) (run_moveQ (.inr rfl) (show an.eval (.const (.int .i64 255)) = .int .i64 255 from rfl) wn) (.val (.int .i64 255)) rfl rfl rfl hK'
              · exact hi.elim
            · intro an w6 hI
              obtain ⟨vr5_0, hvr5_0, hsr5_0⟩ := hI.haveQ 0 _ 8 (.val (.int .i64 255)) rfl rfl rfl rfl
              obtain rfl := hsr5_0
              have hupd := hI.upd
              have ha := hI.act [(8, .int .i64 255)] (by simp [hvr5_0]) (by kernel_rfl)
              clear hI hvr5_0
              subst ha
              simp only [List.foldl_cons, List.foldl_nil, List.setIfInBounds_toArray, List.set_cons_zero, List.set_cons_succ]
              have Bxr0y0_5 := Lib.hid (hupd.blk (show Blk w5 br0_0 23 (numsA .u8 (clampL l)) from Bxr0y0_4.out) (fun h => h))
              have Bxr0y1_5 := Lib.hid (hupd.blk (show Blk w5 br0_1 23 (numsA .u8 m) from Bxr0y1_4.out) (fun h => h))
              have Bxr0y2_5 := Lib.hid (hupd.blk (show Blk w5 br0_2 23 (numsA .u8 zeroKL) from Bxr0y2_4.out) (fun h => h))
              have Bxr3y2_5 := Lib.hid (hupd.blk (show Blk w5 br3_2 45 ar3_1 from Bxr3y2_4.out) (fun h => h))
              have Bxr4y5_5 := Lib.hid (hupd.blk (show Blk w5 cr4_7 80 yr4_7 from Bxr4y5.out) (fun h => h))
              have Bxr4y6_5 := Lib.hid (hupd.blk (show Blk w5 cr4_8 80 yr4_8 from Bxr4y6.out) (fun h => h))
              have HU5 := Lib.hid (HU4.out.trans hupd)
              clear hupd
              refine wpOps_nil ?_
              refine hK6 _ _ ?_
              clear hK6
              refine wp_block ?_
              refine wp_loop (fun a' w' => ∃ (k : Nat) (u7_9 u7_10 u7_11 u7_31 u7_32 u7_33 u7_34 u7_35 u7_36 u7_37 u7_38 u7_39 u7_40 u7_41 u7_42 u7_43 u7_44 u7_45 u7_46 u7_47 u7_48 u7_49 u7_50 u7_51 u7_52 u7_53 u7_54 u7_55 u7_56 u7_57 u7_58 u7_59 u7_60 : Value) (A7_6 A7_7 : Array Value), k ≤ 256 ∧ a' = ⟨#[.agg (numsA .u8 l), .agg (numsA .u8 m), ptrTo br0_0, ptrTo br0_1, ptrTo br0_2, ptrTo br3_2, ptrTo cr4_7, ptrTo cr4_8, .int .i64 ((k : Int) - 1), u7_9, u7_10, u7_11, .pointer (some ⟨br0_0, 0 + 0, none⟩), .int .u8 (l.getD 0 0), .pointer (some ⟨br0_0, 0 + 0, none⟩), .int .u8 (l.getD 0 0), .int .u8 ((l.getD 0 0) % 8), .int .u8 ((l.getD 0 0) - ((l.getD 0 0) % 8)), .pointer (some ⟨br0_0, 0 + 0, none⟩), .pointer (some ⟨br0_0, 0 + 31, none⟩), .int .u8 ((l.set 0 ((l.getD 0 0) - ((l.getD 0 0) % 8))).getD 31 0), .int .u8 (((l.set 0 ((l.getD 0 0) - ((l.getD 0 0) % 8))).getD 31 0) % 64), .int .u8 ((((l.set 0 ((l.getD 0 0) - ((l.getD 0 0) % 8))).getD 31 0) % 64) + 64), .pointer (some ⟨br0_0, 0 + 31, none⟩), .agg (numsA .u8 m), .agg ar3_1, .agg ar4_0, .agg ar4_1, .agg ar3_1, .agg ar4_3, .agg ar4_4, u7_31, u7_32, u7_33, u7_34, u7_35, u7_36, u7_37, u7_38, u7_39, u7_40, u7_41, u7_42, u7_43, u7_44, u7_45, u7_46, u7_47, u7_48, u7_49, u7_50, u7_51, u7_52, u7_53, u7_54, u7_55, u7_56, u7_57, u7_58, u7_59, u7_60, undef, undef, undef, undef, undef, undef, undef], []⟩ ∧ Upd (fun _ => False) w w' ∧ Blk w' cr4_7 80 A7_6 ∧ Ch 16 RN [(refF (clampL l) (ofKey m) k).x1, (refF (clampL l) (ofKey m) k).z1] A7_6 ∧ Blk w' cr4_8 80 A7_7 ∧ Ch 16 RN [(refF (clampL l) (ofKey m) k).x2, (refF (clampL l) (ofKey m) k).z2] A7_7 ∧ Blk w' br0_0 23 (numsA .u8 (clampL l)) ∧ Blk w' br0_1 23 (numsA .u8 m) ∧ Blk w' br0_2 23 (numsA .u8 zeroKL) ∧ Blk w' br3_2 45 ar3_1) (fun a' _ => (intOf (a'.tmps.getD 8 undef) + 1).toNat) ?_ ?_
              · exact ⟨256, undef, undef, undef, undef, undef, undef, undef, undef, undef, undef, undef, undef, undef, undef, undef, undef, undef, undef, undef, undef, undef, undef, undef, undef, undef, undef, undef, undef, undef, undef, undef, undef, undef, yr4_7, yr4_8, Nat.le_refl _, rfl, HU5.out, Bxr4y5_5.out, (show Ch 16 RN [fv 1, 0] yr4_7 from hyr4_7).to (by rw [refF_top]), Bxr4y6_5.out, (show Ch 16 RN [ofKey m, fv 1] yr4_8 from hyr4_8).to (by rw [refF_top]), Bxr0y0_5.out, Bxr0y1_5.out, Bxr0y2_5.out, Bxr3y2_5.out⟩
              · rintro a' wl7 ⟨k, u7_9, u7_10, u7_11, u7_31, u7_32, u7_33, u7_34, u7_35, u7_36, u7_37, u7_38, u7_39, u7_40, u7_41, u7_42, u7_43, u7_44, u7_45, u7_46, u7_47, u7_48, u7_49, u7_50, u7_51, u7_52, u7_53, u7_54, u7_55, u7_56, u7_57, u7_58, u7_59, u7_60, A7_6, A7_7, hk7, rfl, hul, hbl6, hcl6, hbl7, hcl7, hol0, hol1, hol2, hol3⟩
                have HUl7 := Lib.hid hul
                have Bxr4y5_l7 := Lib.hid hbl6
                have Bxr4y6_l7 := Lib.hid hbl7
                have Bxr0y0_l7 := Lib.hid hol0
                have Bxr0y1_l7 := Lib.hid hol1
                have Bxr0y2_l7 := Lib.hid hol2
                have Bxr3y2_l7 := Lib.hid hol3
                clear hul hbl6 hbl7 hol0 hol1 hol2 hol3
                by_cases hlt : 0 < k
                · obtain ⟨j, rfl⟩ : ∃ j, k = j + 1 := ⟨k - 1, by omega⟩
                  rw [show ((j + 1 : Nat) : Int) - 1 = (j : Int) by omega]
                  clear hlt
                  refine wp_seq_k fun K8 hK8 => ?_
                  refine wp_seq_k fun K9 hK9 => ?_
                  have hq6_1 : decide (((0 : Int) ≤ (j : Int) : Prop)) = true := decide_eq_true (by omega)
                  refine wp_region_qS 2 #[true, true] [] ([.val (.int .i64 (j : Int)), .val (.bool true)] : List SQ) (by kernel_rfl) (by kernel_rfl) (by kernel_rfl) ?_ ?_
                  · intro i o listed an wn ho hls hst hun hdep hI hpre K' hK'
                    have hi : i = 0 ∨ i = 1 ∨ False := slot_cases (l := [0, 1]) rfl ho hst
                    rcases hi with rfl | rfl | hi
                    · obtain rfl := Option.some.inj ho
                      have hvp : an.eval (.tmp 8) = .int .i64 (j : Int) := hI.oldQ (by kernel_rfl) rfl
                      exact hI.pureQ (by kernel_rfl) hls rfl rfl rfl (.int .i64 (j : Int)) (run_moveQ (.inl rfl) hvp wn) (.val (.int .i64 (j : Int))) rfl rfl rfl hK'
                    · obtain rfl := Option.some.inj ho
                      obtain ⟨vp, hvp, hsp⟩ := hI.haveQ 0 _ 31 (.val (.int .i64 (j : Int))) rfl rfl rfl (hdep ⟨0, .data⟩ (by simp) rfl)
                      obtain rfl := hsp
                      exact hI.pureQ (by kernel_rfl) hls rfl rfl rfl (.bool true) (run_geq rfl (eval_of hvp) rfl hq6_1 wn) (.val (.bool true)) rfl rfl rfl hK'
                    · exact hi.elim
                  · intro an w7 hI
                    obtain ⟨vr6_0, hvr6_0, hsr6_0⟩ := hI.haveQ 0 _ 31 (.val (.int .i64 (j : Int))) rfl rfl rfl rfl
                    obtain rfl := hsr6_0
                    obtain ⟨vr6_1, hvr6_1, hsr6_1⟩ := hI.haveQ 1 _ 32 (.val (.bool true)) rfl rfl rfl rfl
                    obtain rfl := hsr6_1
                    have hupd := hI.upd
                    have ha := hI.act [(31, .int .i64 (j : Int)), (32, .bool true)] (by simp [hvr6_0, hvr6_1]) (by kernel_rfl)
                    clear hI hvr6_0 hvr6_1
                    subst ha
                    simp only [List.foldl_cons, List.foldl_nil, List.setIfInBounds_toArray, List.set_cons_zero, List.set_cons_succ]
                    have Bxr0y0_6 := Lib.hid (hupd.blk (show Blk wl7 br0_0 23 (numsA .u8 (clampL l)) from Bxr0y0_l7.out) (fun h => h))
                    have Bxr0y1_6 := Lib.hid (hupd.blk (show Blk wl7 br0_1 23 (numsA .u8 m) from Bxr0y1_l7.out) (fun h => h))
                    have Bxr0y2_6 := Lib.hid (hupd.blk (show Blk wl7 br0_2 23 (numsA .u8 zeroKL) from Bxr0y2_l7.out) (fun h => h))
                    have Bxr3y2_6 := Lib.hid (hupd.blk (show Blk wl7 br3_2 45 ar3_1 from Bxr3y2_l7.out) (fun h => h))
                    have Bxr4y5_6 := Lib.hid (hupd.blk (show Blk wl7 cr4_7 80 A7_6 from Bxr4y5_l7.out) (fun h => h))
                    have Bxr4y6_6 := Lib.hid (hupd.blk (show Blk wl7 cr4_8 80 A7_7 from Bxr4y6_l7.out) (fun h => h))
                    have HU6 := Lib.hid (HUl7.out.trans hupd)
                    clear hupd
                    refine wpOps_nil ?_
                    refine hK9 _ _ ?_
                    clear hK9
                    refine wp_cond_true rfl ?_
                    refine wp_skip ?_
                    refine hK8 _ _ ?_
                    clear hK8
                    refine wp_seq_k fun K10 hK10 => ?_
                    refine wp_block ?_
                    refine wp_seq_k fun K11 hK11 => ?_
                    refine wp_region_qS 6 #[true, true, true, true, true, true] [] ([.val (.int .i64 (j : Int)), .val (.int .i64 ((j / 8 : Nat) : Int)), .val (.pointer (some ⟨br0_0, 0 + (j / 8), none⟩)), .val (.int .u8 ((clampL l).getD (j / 8) 0)), .val (.int .i64 ((clampL l).getD (j / 8) 0)), .val (.int .i64 ((clampL l).getD (j / 8) 0))] : List SQ) (by kernel_rfl) (by kernel_rfl) (by kernel_rfl) ?_ ?_
                    · intro i o listed an wn ho hls hst hun hdep hI hpre K' hK'
                      have hi : i = 0 ∨ i = 1 ∨ i = 2 ∨ i = 3 ∨ i = 4 ∨ i = 5 ∨ False := slot_cases (l := [0, 1, 2, 3, 4, 5]) rfl ho hst
                      rcases hi with rfl | rfl | rfl | rfl | rfl | rfl | hi
                      · obtain rfl := Option.some.inj ho
                        have hvp : an.eval (.tmp 8) = .int .i64 (j : Int) := hI.oldQ (by kernel_rfl) rfl
                        exact hI.pureQ (by kernel_rfl) hls rfl rfl rfl (.int .i64 (j : Int)) (run_moveQ (.inl rfl) hvp wn) (.val (.int .i64 (j : Int))) rfl rfl rfl hK'
                      · obtain rfl := Option.some.inj ho
                        obtain ⟨vp, hvp, hsp⟩ := hI.haveQ 0 _ 35 (.val (.int .i64 (j : Int))) rfl rfl rfl (hdep ⟨0, .data⟩ (by simp) rfl)
                        obtain rfl := hsp
                        exact hI.pureQ (by kernel_rfl) hls rfl rfl rfl (.int .i64 ((j / 8 : Nat) : Int)) (run_quo rfl (eval_of hvp) rfl (by decide) (quo8 _ (by omega)) wn) (.val (.int .i64 ((j / 8 : Nat) : Int))) rfl rfl rfl hK'
                      · obtain rfl := Option.some.inj ho
                        have hvp : an.eval (.tmp 2) = ptrTo br0_0 := hI.oldQ (by kernel_rfl) rfl
                        obtain ⟨vq, hvq, hsq⟩ := hI.haveQ 1 _ 36 (.val (.int .i64 ((j / 8 : Nat) : Int))) rfl rfl rfl (hdep ⟨1, .data⟩ (by simp) rfl)
                        obtain rfl := hsq
                        exact hI.pureQ (by kernel_rfl) hls rfl rfl rfl (.pointer (some ⟨br0_0, 0 + (j / 8), none⟩)) (run_adr (off := 0) (i := (j / 8)) rfl Tryd.underlying23 size5 hvp (eval_of hvq) (by omega) wn) (.val (.pointer (some ⟨br0_0, 0 + (j / 8), none⟩))) rfl rfl rfl hK'
                      · obtain rfl := Option.some.inj ho
                        obtain ⟨vp, hvp, hsp⟩ := hI.haveQ 2 _ 37 (.val (.pointer (some ⟨br0_0, 0 + (j / 8), none⟩))) rfl rfl rfl (hdep ⟨2, .data⟩ (by simp) rfl)
                        obtain rfl := hsp
                        exact hI.pureQ (by kernel_rfl) hls rfl rfl rfl (.int .u8 ((clampL l).getD (j / 8) 0)) (run_cellQ rfl Tryd.underlying5 (eval_of hvp) wn (hI.upd.blk (show Blk w7 br0_0 23 (numsA .u8 (clampL l)) from Bxr0y0_6.out) (fun h => h)) (by rw [Nat.zero_add]; exact numsA_get _ _ _ (by rw [(clampL_length _).trans hl]; omega))) (.val (.int .u8 ((clampL l).getD (j / 8) 0))) rfl rfl rfl hK'
                      · obtain rfl := Option.some.inj ho
                        obtain ⟨vp, hvp, hsp⟩ := hI.haveQ 3 _ 38 (.val (.int .u8 ((clampL l).getD (j / 8) 0))) rfl rfl rfl (hdep ⟨3, .data⟩ (by simp) rfl)
                        obtain rfl := hsp
                        exact hI.pureQ (by kernel_rfl) hls rfl rfl rfl (.int .i64 ((clampL l).getD (j / 8) 0)) (run_conv rfl ⟨_, Tryd.underlying5⟩ Tryd.underlying3 (eval_of hvp) (IntWalk.i64_in _ (i64_of8 (Digs.get (B := 256) (by decide) (clampL_digs hd) _))) wn) (.val (.int .i64 ((clampL l).getD (j / 8) 0))) rfl rfl rfl hK'
                      · obtain rfl := Option.some.inj ho
                        obtain ⟨vp, hvp, hsp⟩ := hI.haveQ 4 _ 39 (.val (.int .i64 ((clampL l).getD (j / 8) 0))) rfl rfl rfl (hdep ⟨4, .data⟩ (by simp) rfl)
                        obtain rfl := hsp
                        exact hI.pureQ (by kernel_rfl) hls rfl rfl rfl (.int .i64 ((clampL l).getD (j / 8) 0)) (run_moveQ (.inr rfl) (eval_of hvp) wn) (.val (.int .i64 ((clampL l).getD (j / 8) 0))) rfl rfl rfl hK'
                      · exact hi.elim
                    · intro an w8 hI
                      obtain ⟨vr7_0, hvr7_0, hsr7_0⟩ := hI.haveQ 0 _ 35 (.val (.int .i64 (j : Int))) rfl rfl rfl rfl
                      obtain rfl := hsr7_0
                      obtain ⟨vr7_1, hvr7_1, hsr7_1⟩ := hI.haveQ 1 _ 36 (.val (.int .i64 ((j / 8 : Nat) : Int))) rfl rfl rfl rfl
                      obtain rfl := hsr7_1
                      obtain ⟨vr7_2, hvr7_2, hsr7_2⟩ := hI.haveQ 2 _ 37 (.val (.pointer (some ⟨br0_0, 0 + (j / 8), none⟩))) rfl rfl rfl rfl
                      obtain rfl := hsr7_2
                      obtain ⟨vr7_3, hvr7_3, hsr7_3⟩ := hI.haveQ 3 _ 38 (.val (.int .u8 ((clampL l).getD (j / 8) 0))) rfl rfl rfl rfl
                      obtain rfl := hsr7_3
                      obtain ⟨vr7_4, hvr7_4, hsr7_4⟩ := hI.haveQ 4 _ 39 (.val (.int .i64 ((clampL l).getD (j / 8) 0))) rfl rfl rfl rfl
                      obtain rfl := hsr7_4
                      obtain ⟨vr7_5, hvr7_5, hsr7_5⟩ := hI.haveQ 5 _ 9 (.val (.int .i64 ((clampL l).getD (j / 8) 0))) rfl rfl rfl rfl
                      obtain rfl := hsr7_5
                      have hupd := hI.upd
                      have ha := hI.act [(35, .int .i64 (j : Int)), (36, .int .i64 ((j / 8 : Nat) : Int)), (37, .pointer (some ⟨br0_0, 0 + (j / 8), none⟩)), (38, .int .u8 ((clampL l).getD (j / 8) 0)), (39, .int .i64 ((clampL l).getD (j / 8) 0)), (9, .int .i64 ((clampL l).getD (j / 8) 0))] (by simp [hvr7_0, hvr7_1, hvr7_2, hvr7_3, hvr7_4, hvr7_5]) (by kernel_rfl)
                      clear hI hvr7_0 hvr7_1 hvr7_2 hvr7_3 hvr7_4 hvr7_5
                      subst ha
                      simp only [List.foldl_cons, List.foldl_nil, List.setIfInBounds_toArray, List.set_cons_zero, List.set_cons_succ]
                      have Bxr0y0_7 := Lib.hid (hupd.blk (show Blk w7 br0_0 23 (numsA .u8 (clampL l)) from Bxr0y0_6.out) (fun h => h))
                      have Bxr0y1_7 := Lib.hid (hupd.blk (show Blk w7 br0_1 23 (numsA .u8 m) from Bxr0y1_6.out) (fun h => h))
                      have Bxr0y2_7 := Lib.hid (hupd.blk (show Blk w7 br0_2 23 (numsA .u8 zeroKL) from Bxr0y2_6.out) (fun h => h))
                      have Bxr3y2_7 := Lib.hid (hupd.blk (show Blk w7 br3_2 45 ar3_1 from Bxr3y2_6.out) (fun h => h))
                      have Bxr4y5_7 := Lib.hid (hupd.blk (show Blk w7 cr4_7 80 A7_6 from Bxr4y5_6.out) (fun h => h))
                      have Bxr4y6_7 := Lib.hid (hupd.blk (show Blk w7 cr4_8 80 A7_7 from Bxr4y6_6.out) (fun h => h))
                      have HU7 := Lib.hid (HU6.out.trans hupd)
                      clear hupd
                      refine wpOps_nil ?_
                      refine hK11 _ _ ?_
                      clear hK11
                      refine wp_seq_k fun K12 hK12 => ?_
                      refine wp_seq_k fun K13 hK13 => ?_
                      refine wp_region_qS 1 #[true] [] ([.val (.int .i64 0)] : List SQ) (by kernel_rfl) (by kernel_rfl) (by kernel_rfl) ?_ ?_
                      · intro i o listed an wn ho hls hst hun hdep hI hpre K' hK'
                        have hi : i = 0 ∨ False := slot_cases (l := [0]) rfl ho hst
                        rcases hi with rfl | hi
                        · obtain rfl := Option.some.inj ho
                          exact hI.pureQ (by kernel_rfl) hls rfl rfl rfl (.int .i64 0) (run_moveQ (.inr rfl) (show an.eval (.const (.int .i64 0)) = .int .i64 0 from rfl) wn) (.val (.int .i64 0)) rfl rfl rfl hK'
                        · exact hi.elim
                      · intro an w9 hI
                        obtain ⟨vr8_0, hvr8_0, hsr8_0⟩ := hI.haveQ 0 _ 10 (.val (.int .i64 0)) rfl rfl rfl rfl
                        obtain rfl := hsr8_0
                        have hupd := hI.upd
                        have ha := hI.act [(10, .int .i64 0)] (by simp [hvr8_0]) (by kernel_rfl)
                        clear hI hvr8_0
                        subst ha
                        simp only [List.foldl_cons, List.foldl_nil, List.setIfInBounds_toArray, List.set_cons_zero, List.set_cons_succ]
                        have Bxr0y0_8 := Lib.hid (hupd.blk (show Blk w8 br0_0 23 (numsA .u8 (clampL l)) from Bxr0y0_7.out) (fun h => h))
                        have Bxr0y1_8 := Lib.hid (hupd.blk (show Blk w8 br0_1 23 (numsA .u8 m) from Bxr0y1_7.out) (fun h => h))
                        have Bxr0y2_8 := Lib.hid (hupd.blk (show Blk w8 br0_2 23 (numsA .u8 zeroKL) from Bxr0y2_7.out) (fun h => h))
                        have Bxr3y2_8 := Lib.hid (hupd.blk (show Blk w8 br3_2 45 ar3_1 from Bxr3y2_7.out) (fun h => h))
                        have Bxr4y5_8 := Lib.hid (hupd.blk (show Blk w8 cr4_7 80 A7_6 from Bxr4y5_7.out) (fun h => h))
                        have Bxr4y6_8 := Lib.hid (hupd.blk (show Blk w8 cr4_8 80 A7_7 from Bxr4y6_7.out) (fun h => h))
                        have HU8 := Lib.hid (HU7.out.trans hupd)
                        clear hupd
                        refine wpOps_nil ?_
                        refine hK13 _ _ ?_
                        clear hK13
                        refine wp_block ?_
                        refine wp_loop (fun a' w' => ∃ (k : Nat) (u14_40 u14_41 u14_42 u14_43 u14_44 u14_45 u14_46 u14_47 : Value), k ≤ (j % 8) ∧ a' = ⟨#[.agg (numsA .u8 l), .agg (numsA .u8 m), ptrTo br0_0, ptrTo br0_1, ptrTo br0_2, ptrTo br3_2, ptrTo cr4_7, ptrTo cr4_8, .int .i64 (j : Int), .int .i64 (halfI ((clampL l).getD (j / 8) 0) k), .int .i64 (k : Int), u7_11, .pointer (some ⟨br0_0, 0 + 0, none⟩), .int .u8 (l.getD 0 0), .pointer (some ⟨br0_0, 0 + 0, none⟩), .int .u8 (l.getD 0 0), .int .u8 ((l.getD 0 0) % 8), .int .u8 ((l.getD 0 0) - ((l.getD 0 0) % 8)), .pointer (some ⟨br0_0, 0 + 0, none⟩), .pointer (some ⟨br0_0, 0 + 31, none⟩), .int .u8 ((l.set 0 ((l.getD 0 0) - ((l.getD 0 0) % 8))).getD 31 0), .int .u8 (((l.set 0 ((l.getD 0 0) - ((l.getD 0 0) % 8))).getD 31 0) % 64), .int .u8 ((((l.set 0 ((l.getD 0 0) - ((l.getD 0 0) % 8))).getD 31 0) % 64) + 64), .pointer (some ⟨br0_0, 0 + 31, none⟩), .agg (numsA .u8 m), .agg ar3_1, .agg ar4_0, .agg ar4_1, .agg ar3_1, .agg ar4_3, .agg ar4_4, .int .i64 (j : Int), .bool true, u7_33, u7_34, .int .i64 (j : Int), .int .i64 ((j / 8 : Nat) : Int), .pointer (some ⟨br0_0, 0 + (j / 8), none⟩), .int .u8 ((clampL l).getD (j / 8) 0), .int .i64 ((clampL l).getD (j / 8) 0), u14_40, u14_41, u14_42, u14_43, u14_44, u14_45, u14_46, u14_47, u7_48, u7_49, u7_50, u7_51, u7_52, u7_53, u7_54, u7_55, u7_56, u7_57, u7_58, u7_59, u7_60, undef, undef, undef, undef, undef, undef, undef], []⟩ ∧ Upd (fun _ => False) w w' ∧ Blk w' br0_0 23 (numsA .u8 (clampL l)) ∧ Blk w' br0_1 23 (numsA .u8 m) ∧ Blk w' br0_2 23 (numsA .u8 zeroKL) ∧ Blk w' br3_2 45 ar3_1 ∧ Blk w' cr4_7 80 A7_6 ∧ Blk w' cr4_8 80 A7_7) (fun a' _ => ((j % 8)) - (intOf (a'.tmps.getD 10 undef)).toNat) ?_ ?_
                        · exact ⟨0, u7_40, u7_41, u7_42, u7_43, u7_44, u7_45, u7_46, u7_47, Nat.zero_le _, rfl, HU8.out, Bxr0y0_8.out, Bxr0y1_8.out, Bxr0y2_8.out, Bxr3y2_8.out, Bxr4y5_8.out, Bxr4y6_8.out⟩
                        · rintro a' wl14 ⟨k, u14_40, u14_41, u14_42, u14_43, u14_44, u14_45, u14_46, u14_47, hk14, rfl, hul, hol0, hol1, hol2, hol3, hol4, hol5⟩
                          have HUl14 := Lib.hid hul
                          have Bxr0y0_l14 := Lib.hid hol0
                          have Bxr0y1_l14 := Lib.hid hol1
                          have Bxr0y2_l14 := Lib.hid hol2
                          have Bxr3y2_l14 := Lib.hid hol3
                          have Bxr4y5_l14 := Lib.hid hol4
                          have Bxr4y6_l14 := Lib.hid hol5
                          clear hul hol0 hol1 hol2 hol3 hol4 hol5
                          by_cases hlt : k < (j % 8)
                          · have Hlt14 := Lib.hid hlt
                            refine wp_seq_k fun K15 hK15 => ?_
                            refine wp_seq_k fun K16 hK16 => ?_
                            have hq9_3 : decide ((((k : Int) : Int) < ((j % 8 : Nat) : Int) : Prop)) = true := decide_eq_true (by omega)
                            refine wp_region_qS 4 #[true, true, true, true] [] ([.val (.int .i64 (k : Int)), .val (.int .i64 (j : Int)), .val (.int .i64 ((j % 8 : Nat) : Int)), .val (.bool true)] : List SQ) (by kernel_rfl) (by kernel_rfl) (by kernel_rfl) ?_ ?_
                            · intro i o listed an wn ho hls hst hun hdep hI hpre K' hK'
                              have hi : i = 0 ∨ i = 1 ∨ i = 2 ∨ i = 3 ∨ False := slot_cases (l := [0, 1, 2, 3]) rfl ho hst
                              rcases hi with rfl | rfl | rfl | rfl | hi
                              · obtain rfl := Option.some.inj ho
                                have hvp : an.eval (.tmp 10) = .int .i64 (k : Int) := hI.oldQ (by kernel_rfl) rfl
                                exact hI.pureQ (by kernel_rfl) hls rfl rfl rfl (.int .i64 (k : Int)) (run_moveQ (.inl rfl) hvp wn) (.val (.int .i64 (k : Int))) rfl rfl rfl hK'
                              · obtain rfl := Option.some.inj ho
                                have hvp : an.eval (.tmp 8) = .int .i64 (j : Int) := hI.oldQ (by kernel_rfl) rfl
                                exact hI.pureQ (by kernel_rfl) hls rfl rfl rfl (.int .i64 (j : Int)) (run_moveQ (.inl rfl) hvp wn) (.val (.int .i64 (j : Int))) rfl rfl rfl hK'
                              · obtain rfl := Option.some.inj ho
                                obtain ⟨vp, hvp, hsp⟩ := hI.haveQ 1 _ 41 (.val (.int .i64 (j : Int))) rfl rfl rfl (hdep ⟨1, .data⟩ (by simp) rfl)
                                obtain rfl := hsp
                                exact hI.pureQ (by kernel_rfl) hls rfl rfl rfl (.int .i64 ((j % 8 : Nat) : Int)) (run_rem rfl (eval_of hvp) rfl (by decide) (rem8 _) wn) (.val (.int .i64 ((j % 8 : Nat) : Int))) rfl rfl rfl hK'
                              · obtain rfl := Option.some.inj ho
                                obtain ⟨vp, hvp, hsp⟩ := hI.haveQ 0 _ 40 (.val (.int .i64 (k : Int))) rfl rfl rfl (hdep ⟨0, .data⟩ (by simp) rfl)
                                obtain rfl := hsp
                                obtain ⟨vq, hvq, hsq⟩ := hI.haveQ 2 _ 42 (.val (.int .i64 ((j % 8 : Nat) : Int))) rfl rfl rfl (hdep ⟨2, .data⟩ (by simp) rfl)
                                obtain rfl := hsq
                                exact hI.pureQ (by kernel_rfl) hls rfl rfl rfl (.bool true) (run_lss rfl (eval_of hvp) (eval_of hvq) hq9_3 wn) (.val (.bool true)) rfl rfl rfl hK'
                              · exact hi.elim
                            · intro an w10 hI
                              obtain ⟨vr9_0, hvr9_0, hsr9_0⟩ := hI.haveQ 0 _ 40 (.val (.int .i64 (k : Int))) rfl rfl rfl rfl
                              obtain rfl := hsr9_0
                              obtain ⟨vr9_1, hvr9_1, hsr9_1⟩ := hI.haveQ 1 _ 41 (.val (.int .i64 (j : Int))) rfl rfl rfl rfl
                              obtain rfl := hsr9_1
                              obtain ⟨vr9_2, hvr9_2, hsr9_2⟩ := hI.haveQ 2 _ 42 (.val (.int .i64 ((j % 8 : Nat) : Int))) rfl rfl rfl rfl
                              obtain rfl := hsr9_2
                              obtain ⟨vr9_3, hvr9_3, hsr9_3⟩ := hI.haveQ 3 _ 43 (.val (.bool true)) rfl rfl rfl rfl
                              obtain rfl := hsr9_3
                              have hupd := hI.upd
                              have ha := hI.act [(40, .int .i64 (k : Int)), (41, .int .i64 (j : Int)), (42, .int .i64 ((j % 8 : Nat) : Int)), (43, .bool true)] (by simp [hvr9_0, hvr9_1, hvr9_2, hvr9_3]) (by kernel_rfl)
                              clear hI hvr9_0 hvr9_1 hvr9_2 hvr9_3
                              subst ha
                              simp only [List.foldl_cons, List.foldl_nil, List.setIfInBounds_toArray, List.set_cons_zero, List.set_cons_succ]
                              have Bxr0y0_9 := Lib.hid (hupd.blk (show Blk wl14 br0_0 23 (numsA .u8 (clampL l)) from Bxr0y0_l14.out) (fun h => h))
                              have Bxr0y1_9 := Lib.hid (hupd.blk (show Blk wl14 br0_1 23 (numsA .u8 m) from Bxr0y1_l14.out) (fun h => h))
                              have Bxr0y2_9 := Lib.hid (hupd.blk (show Blk wl14 br0_2 23 (numsA .u8 zeroKL) from Bxr0y2_l14.out) (fun h => h))
                              have Bxr3y2_9 := Lib.hid (hupd.blk (show Blk wl14 br3_2 45 ar3_1 from Bxr3y2_l14.out) (fun h => h))
                              have Bxr4y5_9 := Lib.hid (hupd.blk (show Blk wl14 cr4_7 80 A7_6 from Bxr4y5_l14.out) (fun h => h))
                              have Bxr4y6_9 := Lib.hid (hupd.blk (show Blk wl14 cr4_8 80 A7_7 from Bxr4y6_l14.out) (fun h => h))
                              have HU9 := Lib.hid (HUl14.out.trans hupd)
                              clear hupd
                              refine wpOps_nil ?_
                              refine hK16 _ _ ?_
                              clear hK16
                              refine wp_cond_true rfl ?_
                              refine wp_skip ?_
                              refine hK15 _ _ ?_
                              clear hK15
                              refine wp_seq_k fun K17 hK17 => ?_
                              refine wp_block ?_
                              refine wp_region_qS 3 #[true, true, true] [] ([.val (.int .i64 (halfI ((clampL l).getD (j / 8) 0) k)), .val (.int .i64 ((halfI ((clampL l).getD (j / 8) 0) k) / 2)), .val (.int .i64 ((halfI ((clampL l).getD (j / 8) 0) k) / 2))] : List SQ) (by kernel_rfl) (by kernel_rfl) (by kernel_rfl) ?_ ?_
                              · intro i o listed an wn ho hls hst hun hdep hI hpre K' hK'
                                have hi : i = 0 ∨ i = 1 ∨ i = 2 ∨ False := slot_cases (l := [0, 1, 2]) rfl ho hst
                                rcases hi with rfl | rfl | rfl | hi
                                · obtain rfl := Option.some.inj ho
                                  have hvp : an.eval (.tmp 9) = .int .i64 (halfI ((clampL l).getD (j / 8) 0) k) := hI.oldS hpre (by kernel_rfl) rfl
                                  exact hI.pureQ (by kernel_rfl) hls rfl rfl rfl (.int .i64 (halfI ((clampL l).getD (j / 8) 0) k)) (run_moveQ (.inl rfl) hvp wn) (.val (.int .i64 (halfI ((clampL l).getD (j / 8) 0) k))) rfl rfl rfl hK'
                                · obtain rfl := Option.some.inj ho
                                  obtain ⟨vp, hvp, hsp⟩ := hI.haveQ 0 _ 46 (.val (.int .i64 (halfI ((clampL l).getD (j / 8) 0) k))) rfl rfl rfl (hdep ⟨0, .data⟩ (by simp) rfl)
                                  obtain rfl := hsp
                                  exact hI.pureQ (by kernel_rfl) hls rfl rfl rfl (.int .i64 ((halfI ((clampL l).getD (j / 8) 0) k) / 2)) (run_quo rfl (eval_of hvp) rfl (by decide) (half_quo (half_bnd (Digs.get (B := 256) (by decide) (clampL_digs hd) _) _)) wn) (.val (.int .i64 ((halfI ((clampL l).getD (j / 8) 0) k) / 2))) rfl rfl rfl hK'
                                · obtain rfl := Option.some.inj ho
                                  obtain ⟨vp, hvp, hsp⟩ := hI.haveQ 1 _ 47 (.val (.int .i64 ((halfI ((clampL l).getD (j / 8) 0) k) / 2))) rfl rfl rfl (hdep ⟨1, .data⟩ (by simp) rfl)
                                  obtain rfl := hsp
                                  exact hI.pureQ (by kernel_rfl) hls rfl rfl rfl (.int .i64 ((halfI ((clampL l).getD (j / 8) 0) k) / 2)) (run_moveQ (.inr rfl) (eval_of hvp) wn) (.val (.int .i64 ((halfI ((clampL l).getD (j / 8) 0) k) / 2))) rfl rfl rfl hK'
                                · exact hi.elim
                              · intro an w11 hI
                                obtain ⟨vr10_0, hvr10_0, hsr10_0⟩ := hI.haveQ 0 _ 46 (.val (.int .i64 (halfI ((clampL l).getD (j / 8) 0) k))) rfl rfl rfl rfl
                                obtain rfl := hsr10_0
                                obtain ⟨vr10_1, hvr10_1, hsr10_1⟩ := hI.haveQ 1 _ 47 (.val (.int .i64 ((halfI ((clampL l).getD (j / 8) 0) k) / 2))) rfl rfl rfl rfl
                                obtain rfl := hsr10_1
                                obtain ⟨vr10_2, hvr10_2, hsr10_2⟩ := hI.haveQ 2 _ 9 (.val (.int .i64 ((halfI ((clampL l).getD (j / 8) 0) k) / 2))) rfl rfl rfl rfl
                                obtain rfl := hsr10_2
                                have hupd := hI.upd
                                have ha := hI.act [(46, .int .i64 (halfI ((clampL l).getD (j / 8) 0) k)), (47, .int .i64 ((halfI ((clampL l).getD (j / 8) 0) k) / 2)), (9, .int .i64 ((halfI ((clampL l).getD (j / 8) 0) k) / 2))] (by simp [hvr10_0, hvr10_1, hvr10_2]) (by kernel_rfl)
                                clear hI hvr10_0 hvr10_1 hvr10_2
                                subst ha
                                simp only [List.foldl_cons, List.foldl_nil, List.setIfInBounds_toArray, List.set_cons_zero, List.set_cons_succ]
                                have Bxr0y0_10 := Lib.hid (hupd.blk (show Blk w10 br0_0 23 (numsA .u8 (clampL l)) from Bxr0y0_9.out) (fun h => h))
                                have Bxr0y1_10 := Lib.hid (hupd.blk (show Blk w10 br0_1 23 (numsA .u8 m) from Bxr0y1_9.out) (fun h => h))
                                have Bxr0y2_10 := Lib.hid (hupd.blk (show Blk w10 br0_2 23 (numsA .u8 zeroKL) from Bxr0y2_9.out) (fun h => h))
                                have Bxr3y2_10 := Lib.hid (hupd.blk (show Blk w10 br3_2 45 ar3_1 from Bxr3y2_9.out) (fun h => h))
                                have Bxr4y5_10 := Lib.hid (hupd.blk (show Blk w10 cr4_7 80 A7_6 from Bxr4y5_9.out) (fun h => h))
                                have Bxr4y6_10 := Lib.hid (hupd.blk (show Blk w10 cr4_8 80 A7_7 from Bxr4y6_9.out) (fun h => h))
                                have HU10 := Lib.hid (HU9.out.trans hupd)
                                clear hupd
                                refine wpOps_nil ?_
                                refine hK17 _ _ ?_
                                clear hK17
                                have hq11_1 : IntKind.wrap .i64 ((k : Int) + 1) = (k : Int) + 1 := IntWalk.i64_in _ (by omega)
                                refine wp_region_qS 3 #[true, true, true] [] ([.val (.int .i64 (k : Int)), .val (.int .i64 ((k : Int) + 1)), .val (.int .i64 ((k : Int) + 1))] : List SQ) (by kernel_rfl) (by kernel_rfl) (by kernel_rfl) ?_ ?_
                                · intro i o listed an wn ho hls hst hun hdep hI hpre K' hK'
                                  have hi : i = 0 ∨ i = 1 ∨ i = 2 ∨ False := slot_cases (l := [0, 1, 2]) rfl ho hst
                                  rcases hi with rfl | rfl | rfl | hi
                                  · obtain rfl := Option.some.inj ho
                                    have hvp : an.eval (.tmp 10) = .int .i64 (k : Int) := hI.oldS hpre (by kernel_rfl) rfl
                                    exact hI.pureQ (by kernel_rfl) hls rfl rfl rfl (.int .i64 (k : Int)) (run_moveQ (.inl rfl) hvp wn) (.val (.int .i64 (k : Int))) rfl rfl rfl hK'
                                  · obtain rfl := Option.some.inj ho
                                    obtain ⟨vp, hvp, hsp⟩ := hI.haveQ 0 _ 44 (.val (.int .i64 (k : Int))) rfl rfl rfl (hdep ⟨0, .data⟩ (by simp) rfl)
                                    obtain rfl := hsp
                                    exact hI.pureQ (by kernel_rfl) hls rfl rfl rfl (.int .i64 ((k : Int) + 1)) (run_add rfl (eval_of hvp) rfl hq11_1 wn) (.val (.int .i64 ((k : Int) + 1))) rfl rfl rfl hK'
                                  · obtain rfl := Option.some.inj ho
                                    obtain ⟨vp, hvp, hsp⟩ := hI.haveQ 1 _ 45 (.val (.int .i64 ((k : Int) + 1))) rfl rfl rfl (hdep ⟨1, .data⟩ (by simp) rfl)
                                    obtain rfl := hsp
                                    exact hI.pureQ (by kernel_rfl) hls rfl rfl rfl (.int .i64 ((k : Int) + 1)) (run_moveQ (.inr rfl) (eval_of hvp) wn) (.val (.int .i64 ((k : Int) + 1))) rfl rfl rfl hK'
                                  · exact hi.elim
                                · intro an w12 hI
                                  obtain ⟨vr11_0, hvr11_0, hsr11_0⟩ := hI.haveQ 0 _ 44 (.val (.int .i64 (k : Int))) rfl rfl rfl rfl
                                  obtain rfl := hsr11_0
                                  obtain ⟨vr11_1, hvr11_1, hsr11_1⟩ := hI.haveQ 1 _ 45 (.val (.int .i64 ((k : Int) + 1))) rfl rfl rfl rfl
                                  obtain rfl := hsr11_1
                                  obtain ⟨vr11_2, hvr11_2, hsr11_2⟩ := hI.haveQ 2 _ 10 (.val (.int .i64 ((k : Int) + 1))) rfl rfl rfl rfl
                                  obtain rfl := hsr11_2
                                  have hupd := hI.upd
                                  have ha := hI.act [(44, .int .i64 (k : Int)), (45, .int .i64 ((k : Int) + 1)), (10, .int .i64 ((k : Int) + 1))] (by simp [hvr11_0, hvr11_1, hvr11_2]) (by kernel_rfl)
                                  clear hI hvr11_0 hvr11_1 hvr11_2
                                  subst ha
                                  simp only [List.foldl_cons, List.foldl_nil, List.setIfInBounds_toArray, List.set_cons_zero, List.set_cons_succ]
                                  have Bxr0y0_11 := Lib.hid (hupd.blk (show Blk w11 br0_0 23 (numsA .u8 (clampL l)) from Bxr0y0_10.out) (fun h => h))
                                  have Bxr0y1_11 := Lib.hid (hupd.blk (show Blk w11 br0_1 23 (numsA .u8 m) from Bxr0y1_10.out) (fun h => h))
                                  have Bxr0y2_11 := Lib.hid (hupd.blk (show Blk w11 br0_2 23 (numsA .u8 zeroKL) from Bxr0y2_10.out) (fun h => h))
                                  have Bxr3y2_11 := Lib.hid (hupd.blk (show Blk w11 br3_2 45 ar3_1 from Bxr3y2_10.out) (fun h => h))
                                  have Bxr4y5_11 := Lib.hid (hupd.blk (show Blk w11 cr4_7 80 A7_6 from Bxr4y5_10.out) (fun h => h))
                                  have Bxr4y6_11 := Lib.hid (hupd.blk (show Blk w11 cr4_8 80 A7_7 from Bxr4y6_10.out) (fun h => h))
                                  have HU11 := Lib.hid (HU10.out.trans hupd)
                                  clear hupd
                                  refine wpOps_nil ?_
                                  exact ⟨⟨k + 1, _, _, _, _, _, _, _, _, Nat.succ_le_of_lt Hlt14.out, rfl, HU11.out, Bxr0y0_11.out, Bxr0y1_11.out, Bxr0y2_11.out, Bxr3y2_11.out, Bxr4y5_11.out, Bxr4y6_11.out⟩, by show ((j % 8)) - ((k : Int) + 1).toNat < ((j % 8)) - (k : Int).toNat; have := Hlt14.out; omega⟩
                          · obtain rfl : k = (j % 8) := by omega
                            clear hlt
                            refine wp_seq_k fun K18 hK18 => ?_
                            refine wp_seq_k fun K19 hK19 => ?_
                            have hq12_3 : decide ((((((j % 8) : Nat) : Int) : Int) < ((j % 8 : Nat) : Int) : Prop)) = false := decide_eq_false (by omega)
                            refine wp_region_qS 4 #[true, true, true, true] [] ([.val (.int .i64 (((j % 8) : Nat) : Int)), .val (.int .i64 (j : Int)), .val (.int .i64 ((j % 8 : Nat) : Int)), .val (.bool false)] : List SQ) (by kernel_rfl) (by kernel_rfl) (by kernel_rfl) ?_ ?_
                            · intro i o listed an wn ho hls hst hun hdep hI hpre K' hK'
                              have hi : i = 0 ∨ i = 1 ∨ i = 2 ∨ i = 3 ∨ False := slot_cases (l := [0, 1, 2, 3]) rfl ho hst
                              rcases hi with rfl | rfl | rfl | rfl | hi
                              · obtain rfl := Option.some.inj ho
                                have hvp : an.eval (.tmp 10) = .int .i64 (((j % 8) : Nat) : Int) := hI.oldQ (by kernel_rfl) rfl
                                exact hI.pureQ (by kernel_rfl) hls rfl rfl rfl (.int .i64 (((j % 8) : Nat) : Int)) (run_moveQ (.inl rfl) hvp wn) (.val (.int .i64 (((j % 8) : Nat) : Int))) rfl rfl rfl hK'
                              · obtain rfl := Option.some.inj ho
                                have hvp : an.eval (.tmp 8) = .int .i64 (j : Int) := hI.oldQ (by kernel_rfl) rfl
                                exact hI.pureQ (by kernel_rfl) hls rfl rfl rfl (.int .i64 (j : Int)) (run_moveQ (.inl rfl) hvp wn) (.val (.int .i64 (j : Int))) rfl rfl rfl hK'
                              · obtain rfl := Option.some.inj ho
                                obtain ⟨vp, hvp, hsp⟩ := hI.haveQ 1 _ 41 (.val (.int .i64 (j : Int))) rfl rfl rfl (hdep ⟨1, .data⟩ (by simp) rfl)
                                obtain rfl := hsp
                                exact hI.pureQ (by kernel_rfl) hls rfl rfl rfl (.int .i64 ((j % 8 : Nat) : Int)) (run_rem rfl (eval_of hvp) rfl (by decide) (rem8 _) wn) (.val (.int .i64 ((j % 8 : Nat) : Int))) rfl rfl rfl hK'
                              · obtain rfl := Option.some.inj ho
                                obtain ⟨vp, hvp, hsp⟩ := hI.haveQ 0 _ 40 (.val (.int .i64 (((j % 8) : Nat) : Int))) rfl rfl rfl (hdep ⟨0, .data⟩ (by simp) rfl)
                                obtain rfl := hsp
                                obtain ⟨vq, hvq, hsq⟩ := hI.haveQ 2 _ 42 (.val (.int .i64 ((j % 8 : Nat) : Int))) rfl rfl rfl (hdep ⟨2, .data⟩ (by simp) rfl)
                                obtain rfl := hsq
                                exact hI.pureQ (by kernel_rfl) hls rfl rfl rfl (.bool false) (run_lss rfl (eval_of hvp) (eval_of hvq) hq12_3 wn) (.val (.bool false)) rfl rfl rfl hK'
                              · exact hi.elim
                            · intro an w13 hI
                              obtain ⟨vr12_0, hvr12_0, hsr12_0⟩ := hI.haveQ 0 _ 40 (.val (.int .i64 (((j % 8) : Nat) : Int))) rfl rfl rfl rfl
                              obtain rfl := hsr12_0
                              obtain ⟨vr12_1, hvr12_1, hsr12_1⟩ := hI.haveQ 1 _ 41 (.val (.int .i64 (j : Int))) rfl rfl rfl rfl
                              obtain rfl := hsr12_1
                              obtain ⟨vr12_2, hvr12_2, hsr12_2⟩ := hI.haveQ 2 _ 42 (.val (.int .i64 ((j % 8 : Nat) : Int))) rfl rfl rfl rfl
                              obtain rfl := hsr12_2
                              obtain ⟨vr12_3, hvr12_3, hsr12_3⟩ := hI.haveQ 3 _ 43 (.val (.bool false)) rfl rfl rfl rfl
                              obtain rfl := hsr12_3
                              have hupd := hI.upd
                              have ha := hI.act [(40, .int .i64 (((j % 8) : Nat) : Int)), (41, .int .i64 (j : Int)), (42, .int .i64 ((j % 8 : Nat) : Int)), (43, .bool false)] (by simp [hvr12_0, hvr12_1, hvr12_2, hvr12_3]) (by kernel_rfl)
                              clear hI hvr12_0 hvr12_1 hvr12_2 hvr12_3
                              subst ha
                              simp only [List.foldl_cons, List.foldl_nil, List.setIfInBounds_toArray, List.set_cons_zero, List.set_cons_succ]
                              have Bxr0y0_12 := Lib.hid (hupd.blk (show Blk wl14 br0_0 23 (numsA .u8 (clampL l)) from Bxr0y0_l14.out) (fun h => h))
                              have Bxr0y1_12 := Lib.hid (hupd.blk (show Blk wl14 br0_1 23 (numsA .u8 m) from Bxr0y1_l14.out) (fun h => h))
                              have Bxr0y2_12 := Lib.hid (hupd.blk (show Blk wl14 br0_2 23 (numsA .u8 zeroKL) from Bxr0y2_l14.out) (fun h => h))
                              have Bxr3y2_12 := Lib.hid (hupd.blk (show Blk wl14 br3_2 45 ar3_1 from Bxr3y2_l14.out) (fun h => h))
                              have Bxr4y5_12 := Lib.hid (hupd.blk (show Blk wl14 cr4_7 80 A7_6 from Bxr4y5_l14.out) (fun h => h))
                              have Bxr4y6_12 := Lib.hid (hupd.blk (show Blk wl14 cr4_8 80 A7_7 from Bxr4y6_l14.out) (fun h => h))
                              have HU12 := Lib.hid (HUl14.out.trans hupd)
                              clear hupd
                              refine wpOps_nil ?_
                              refine hK19 _ _ ?_
                              clear hK19
                              refine wp_cond_false rfl ?_
                              refine wp_exit_then ?_
                              refine hK12 _ _ ?_
                              clear hK12
                              refine wp_seq_k fun K20 hK20 => ?_
                              refine wp_region_qS 5 #[true, true, true, true, true, false] [5] ([.val (.agg A7_6), .val (.agg A7_7), .val (.agg ar3_1), .like (IsC 16 RN [rsumX (refF (clampL l) (ofKey m) (j + 1)), rsumZ (ofKey m) (refF (clampL l) (ofKey m) (j + 1))]), .blk ptrTo 80 (Ch 16 RN [0, 0]), .val undef] : List SQ) (by kernel_rfl) (by kernel_rfl) (by kernel_rfl) ?_ ?_
                              · intro i o listed an wn ho hls hst hun hdep hI hpre K' hK'
                                have hi : i = 0 ∨ i = 1 ∨ i = 2 ∨ i = 3 ∨ i = 4 ∨ False := slot_cases (l := [0, 1, 2, 3, 4]) rfl ho hst
                                rcases hi with rfl | rfl | rfl | rfl | rfl | hi
                                · obtain rfl := Option.some.inj ho
                                  have hvp : an.eval (.tmp 6) = ptrTo cr4_7 := hI.oldQ (by kernel_rfl) rfl
                                  exact hI.pureQ (by kernel_rfl) hls rfl rfl rfl _ (run_loadQ rfl hvp wn (hI.upd.blk (show Blk w13 cr4_7 80 A7_6 from Bxr4y5_12.out) (fun h => h)) Tryd.underlying80 rfl szR5 (by rw [hcl6.size]; exact Nat.le_of_ble_eq_true rfl)) (.val (.agg A7_6)) rfl (congrArg Value.agg (extract_all _ 32 hcl6.size)) rfl hK'
                                · obtain rfl := Option.some.inj ho
                                  have hvp : an.eval (.tmp 7) = ptrTo cr4_8 := hI.oldQ (by kernel_rfl) rfl
                                  exact hI.pureQ (by kernel_rfl) hls rfl rfl rfl _ (run_loadQ rfl hvp wn (hI.upd.blk (show Blk w13 cr4_8 80 A7_7 from Bxr4y6_12.out) (fun h => h)) Tryd.underlying80 rfl szR5 (by rw [hcl7.size]; exact Nat.le_of_ble_eq_true rfl)) (.val (.agg A7_7)) rfl (congrArg Value.agg (extract_all _ 32 hcl7.size)) rfl hK'
                                · obtain rfl := Option.some.inj ho
                                  have hvp : an.eval (.tmp 5) = ptrTo br3_2 := hI.oldQ (by kernel_rfl) rfl
                                  exact hI.pureQ (by kernel_rfl) hls rfl rfl rfl _ (run_loadQ rfl hvp wn (hI.upd.blk (show Blk w13 br3_2 45 ar3_1 from Bxr3y2_12.out) (fun h => h)) Tryd.underlying45 rfl szN (by rw [hCr3_1.size]; exact Nat.le_of_ble_eq_true rfl)) (.val (.agg ar3_1)) rfl (congrArg Value.agg (extract_all _ 16 hCr3_1.size)) rfl hK'
                                · obtain rfl := Option.some.inj ho
                                  obtain ⟨vp, hvp, hsp⟩ := hI.haveQ 0 _ 48 (.val (.agg A7_6)) rfl rfl rfl (hdep ⟨0, .data⟩ (by simp) rfl)
                                  obtain rfl := hsp
                                  obtain ⟨vq, hvq, hsq⟩ := hI.haveQ 1 _ 49 (.val (.agg A7_7)) rfl rfl rfl (hdep ⟨1, .data⟩ (by simp) rfl)
                                  obtain rfl := hsq
                                  obtain ⟨vr, hvr, hsr⟩ := hI.haveQ 2 _ 50 (.val (.agg ar3_1)) rfl rfl rfl (hdep ⟨2, .data⟩ (by simp) rfl)
                                  obtain rfl := hsr
                                  exact hI.callQ (by kernel_rfl) hls rfl rfl rfl 55 #[.tmp 48, .tmp 49, .tmp 50] _ rfl #[.agg A7_6, .agg A7_7, .agg ar3_1] (by simp [eval_of hvp, eval_of hvq, eval_of hvr]) (run_enter Tryd.func55 (by kernel_rfl) (by kernel_rfl)) (.like (IsC 16 RN [rsumX (refF (clampL l) (ofKey m) (j + 1)), rsumZ (ofKey m) (refF (clampL l) (ofKey m) (j + 1))])) rfl rfl ((raddL _ hcl6 hcl7 hCr3_1).mono fun _ _ h => h.sq) hK'
                                · obtain rfl := Option.some.inj ho
                                  exact hI.newQ (by kernel_rfl) hls (Nat.le_refl _) (newsQ_spec (l := [4]) (by kernel_rfl) ⟨⟨_, _, rfl⟩, trivial⟩) rfl rfl rfl 80 zR5 _ (run_allocQ rfl zR5_run wn) rfl zR5_ch hK'
                                · exact hi.elim
                              · intro an w14 hI
                                obtain ⟨vr13_0, hvr13_0, hsr13_0⟩ := hI.haveQ 0 _ 48 (.val (.agg A7_6)) rfl rfl rfl rfl
                                obtain rfl := hsr13_0
                                obtain ⟨vr13_1, hvr13_1, hsr13_1⟩ := hI.haveQ 1 _ 49 (.val (.agg A7_7)) rfl rfl rfl rfl
                                obtain rfl := hsr13_1
                                obtain ⟨vr13_2, hvr13_2, hsr13_2⟩ := hI.haveQ 2 _ 50 (.val (.agg ar3_1)) rfl rfl rfl rfl
                                obtain rfl := hsr13_2
                                obtain ⟨vr13_3, hvr13_3, ar13_3, rfl, hCr13_3⟩ := hI.haveQ 3 _ 51 (.like (IsC 16 RN [rsumX (refF (clampL l) (ofKey m) (j + 1)), rsumZ (ofKey m) (refF (clampL l) (ofKey m) (j + 1))])) rfl rfl rfl rfl
                                obtain ⟨vr13_4, hvr13_4, br13_4, zr13_4, rfl, hnr13_4, hbr13_4, hzr13_4⟩ := hI.haveQ 4 _ 11 (.blk ptrTo 80 (Ch 16 RN [0, 0])) rfl rfl rfl rfl
                                have hupd := hI.upd
                                have ha := hI.act [(48, .agg A7_6), (49, .agg A7_7), (50, .agg ar3_1), (51, .agg ar13_3), (11, ptrTo br13_4)] (by simp [hvr13_0, hvr13_1, hvr13_2, hvr13_3, hvr13_4]) (by kernel_rfl)
                                clear hI hvr13_0 hvr13_1 hvr13_2 hvr13_3 hvr13_4
                                subst ha
                                simp only [List.foldl_cons, List.foldl_nil, List.setIfInBounds_toArray, List.set_cons_zero, List.set_cons_succ]
                                have hner13_4_Bxr0y0_12 := Lib.hid (show br13_4 ≠ br0_0 from Nat.ne_of_gt (Nat.lt_of_lt_of_le Bxr0y0_12.out.lt hnr13_4))
                                have hner13_4_Bxr0y1_12 := Lib.hid (show br13_4 ≠ br0_1 from Nat.ne_of_gt (Nat.lt_of_lt_of_le Bxr0y1_12.out.lt hnr13_4))
                                have hner13_4_Bxr0y2_12 := Lib.hid (show br13_4 ≠ br0_2 from Nat.ne_of_gt (Nat.lt_of_lt_of_le Bxr0y2_12.out.lt hnr13_4))
                                have hner13_4_Bxr3y2_12 := Lib.hid (show br13_4 ≠ br3_2 from Nat.ne_of_gt (Nat.lt_of_lt_of_le Bxr3y2_12.out.lt hnr13_4))
                                have hner13_4_Bxr4y5_12 := Lib.hid (show br13_4 ≠ cr4_7 from Nat.ne_of_gt (Nat.lt_of_lt_of_le Bxr4y5_12.out.lt hnr13_4))
                                have hner13_4_Bxr4y6_12 := Lib.hid (show br13_4 ≠ cr4_8 from Nat.ne_of_gt (Nat.lt_of_lt_of_le Bxr4y6_12.out.lt hnr13_4))
                                have hger13_4 := Lib.hid (Nat.le_trans HU12.out.size hnr13_4)
                                have Bxr0y0_13 := Lib.hid (hupd.blk (show Blk w13 br0_0 23 (numsA .u8 (clampL l)) from Bxr0y0_12.out) (fun h => h))
                                have Bxr0y1_13 := Lib.hid (hupd.blk (show Blk w13 br0_1 23 (numsA .u8 m) from Bxr0y1_12.out) (fun h => h))
                                have Bxr0y2_13 := Lib.hid (hupd.blk (show Blk w13 br0_2 23 (numsA .u8 zeroKL) from Bxr0y2_12.out) (fun h => h))
                                have Bxr3y2_13 := Lib.hid (hupd.blk (show Blk w13 br3_2 45 ar3_1 from Bxr3y2_12.out) (fun h => h))
                                have Bxr4y5_13 := Lib.hid (hupd.blk (show Blk w13 cr4_7 80 A7_6 from Bxr4y5_12.out) (fun h => h))
                                have Bxr4y6_13 := Lib.hid (hupd.blk (show Blk w13 cr4_8 80 A7_7 from Bxr4y6_12.out) (fun h => h))
                                have Bxr13y4 := Lib.hid hbr13_4
                                have HU13 := Lib.hid (HU12.out.trans hupd)
                                clear hupd
                                refine wpOps_storeQ 5 rfl rfl rfl 80 (.tmp 11) (.tmp 51) rfl br13_4 0 32 rfl ar13_3 rfl 80 zr13_4 Bxr13y4.out szR5 hCr13_3.size (by rw [hzr13_4.size]; exact Nat.le_of_ble_eq_true rfl) hCr13_3.one' ?_
                                intro ws13_0 hs13_0 hus13_0
                                rw [splice_all _ _ 32 hzr13_4.size hCr13_3.size] at hs13_0
                                have Bxr0y0_s13_0 := Lib.hid (hus13_0.blk Bxr0y0_13.out (fun e => hner13_4_Bxr0y0_12.out e.symm))
                                have Bxr0y1_s13_0 := Lib.hid (hus13_0.blk Bxr0y1_13.out (fun e => hner13_4_Bxr0y1_12.out e.symm))
                                have Bxr0y2_s13_0 := Lib.hid (hus13_0.blk Bxr0y2_13.out (fun e => hner13_4_Bxr0y2_12.out e.symm))
                                have Bxr3y2_s13_0 := Lib.hid (hus13_0.blk Bxr3y2_13.out (fun e => hner13_4_Bxr3y2_12.out e.symm))
                                have Bxr4y5_s13_0 := Lib.hid (hus13_0.blk Bxr4y5_13.out (fun e => hner13_4_Bxr4y5_12.out e.symm))
                                have Bxr4y6_s13_0 := Lib.hid (hus13_0.blk Bxr4y6_13.out (fun e => hner13_4_Bxr4y6_12.out e.symm))
                                have Bxr13y4_s13_0 := Lib.hid hs13_0
                                have HU13_0 := Lib.hid (HU13.out.step hus13_0 (fun i hi h => absurd hi (Nat.not_lt.2 (h.symm ▸ hger13_4.out))))
                                clear hs13_0 hus13_0
                                refine wpOps_nil ?_
                                refine hK20 _ _ ?_
                                clear hK20
                                refine wp_seq_k fun K21 hK21 => ?_
                                refine wp_region_qS 3 #[true, true, true] [] ([.val (.int .i64 (halfI ((clampL l).getD (j / 8) 0) (j % 8))), .val (.int .i64 ((halfI ((clampL l).getD (j / 8) 0) (j % 8)) % 2)), .val (.bool (kb (clampL l) j))] : List SQ) (by kernel_rfl) (by kernel_rfl) (by kernel_rfl) ?_ ?_
                                · intro i o listed an wn ho hls hst hun hdep hI hpre K' hK'
                                  have hi : i = 0 ∨ i = 1 ∨ i = 2 ∨ False := slot_cases (l := [0, 1, 2]) rfl ho hst
                                  rcases hi with rfl | rfl | rfl | hi
                                  · obtain rfl := Option.some.inj ho
                                    have hvp : an.eval (.tmp 9) = .int .i64 (halfI ((clampL l).getD (j / 8) 0) (j % 8)) := hI.oldQ (by kernel_rfl) rfl
                                    exact hI.pureQ (by kernel_rfl) hls rfl rfl rfl (.int .i64 (halfI ((clampL l).getD (j / 8) 0) (j % 8))) (run_moveQ (.inl rfl) hvp wn) (.val (.int .i64 (halfI ((clampL l).getD (j / 8) 0) (j % 8)))) rfl rfl rfl hK'
                                  · obtain rfl := Option.some.inj ho
                                    obtain ⟨vp, hvp, hsp⟩ := hI.haveQ 0 _ 52 (.val (.int .i64 (halfI ((clampL l).getD (j / 8) 0) (j % 8)))) rfl rfl rfl (hdep ⟨0, .data⟩ (by simp) rfl)
                                    obtain rfl := hsp
                                    exact hI.pureQ (by kernel_rfl) hls rfl rfl rfl (.int .i64 ((halfI ((clampL l).getD (j / 8) 0) (j % 8)) % 2)) (run_rem rfl (eval_of hvp) rfl (by decide) (Int.tmod_eq_emod_of_nonneg (half_bnd (Digs.get (B := 256) (by decide) (clampL_digs hd) _) _).1) wn) (.val (.int .i64 ((halfI ((clampL l).getD (j / 8) 0) (j % 8)) % 2))) rfl rfl rfl hK'
                                  · obtain rfl := Option.some.inj ho
                                    obtain ⟨vp, hvp, hsp⟩ := hI.haveQ 1 _ 53 (.val (.int .i64 ((halfI ((clampL l).getD (j / 8) 0) (j % 8)) % 2))) rfl rfl rfl (hdep ⟨1, .data⟩ (by simp) rfl)
                                    obtain rfl := hsp
                                    exact hI.pureQ (by kernel_rfl) hls rfl rfl rfl (.bool (kb (clampL l) j)) (run_eql rfl (eval_of hvp) rfl (half_kb (clampL l) j) wn) (.val (.bool (kb (clampL l) j))) rfl rfl rfl hK'
                                  · exact hi.elim
                                · intro an w15 hI
                                  obtain ⟨vr14_0, hvr14_0, hsr14_0⟩ := hI.haveQ 0 _ 52 (.val (.int .i64 (halfI ((clampL l).getD (j / 8) 0) (j % 8)))) rfl rfl rfl rfl
                                  obtain rfl := hsr14_0
                                  obtain ⟨vr14_1, hvr14_1, hsr14_1⟩ := hI.haveQ 1 _ 53 (.val (.int .i64 ((halfI ((clampL l).getD (j / 8) 0) (j % 8)) % 2))) rfl rfl rfl rfl
                                  obtain rfl := hsr14_1
                                  obtain ⟨vr14_2, hvr14_2, hsr14_2⟩ := hI.haveQ 2 _ 54 (.val (.bool (kb (clampL l) j))) rfl rfl rfl rfl
                                  obtain rfl := hsr14_2
                                  have hupd := hI.upd
                                  have ha := hI.act [(52, .int .i64 (halfI ((clampL l).getD (j / 8) 0) (j % 8))), (53, .int .i64 ((halfI ((clampL l).getD (j / 8) 0) (j % 8)) % 2)), (54, .bool (kb (clampL l) j))] (by simp [hvr14_0, hvr14_1, hvr14_2]) (by kernel_rfl)
                                  clear hI hvr14_0 hvr14_1 hvr14_2
                                  subst ha
                                  simp only [List.foldl_cons, List.foldl_nil, List.setIfInBounds_toArray, List.set_cons_zero, List.set_cons_succ]
                                  have Bxr0y0_14 := Lib.hid (hupd.blk (show Blk ws13_0 br0_0 23 (numsA .u8 (clampL l)) from Bxr0y0_s13_0.out) (fun h => h))
                                  have Bxr0y1_14 := Lib.hid (hupd.blk (show Blk ws13_0 br0_1 23 (numsA .u8 m) from Bxr0y1_s13_0.out) (fun h => h))
                                  have Bxr0y2_14 := Lib.hid (hupd.blk (show Blk ws13_0 br0_2 23 (numsA .u8 zeroKL) from Bxr0y2_s13_0.out) (fun h => h))
                                  have Bxr3y2_14 := Lib.hid (hupd.blk (show Blk ws13_0 br3_2 45 ar3_1 from Bxr3y2_s13_0.out) (fun h => h))
                                  have Bxr4y5_14 := Lib.hid (hupd.blk (show Blk ws13_0 cr4_7 80 A7_6 from Bxr4y5_s13_0.out) (fun h => h))
                                  have Bxr4y6_14 := Lib.hid (hupd.blk (show Blk ws13_0 cr4_8 80 A7_7 from Bxr4y6_s13_0.out) (fun h => h))
                                  have Bxr13y4_14 := Lib.hid (hupd.blk (show Blk ws13_0 br13_4 80 ar13_3 from Bxr13y4_s13_0.out) (fun h => h))
                                  have HU14 := Lib.hid (HU13_0.out.trans hupd)
                                  clear hupd
                                  refine wpOps_nil ?_
                                  refine hK21 _ _ ?_
                                  clear hK21
                                  refine wp_cond_split (t := (kb (clampL l) j)) rfl (fun hcd => ?_) (fun hcd => ?_)
                                  · have Hcd22 := Lib.hid hcd
                                    clear hcd
                                    refine wp_region_q #[true, true, true, false, false] ([.val (.agg ar13_3), .val (.agg A7_7), .like (IsC 16 RN [rdblX ((refF (clampL l) (ofKey m) (j + 1)).x2) ((refF (clampL l) (ofKey m) (j + 1)).z2), rdblZ ((refF (clampL l) (ofKey m) (j + 1)).x2) ((refF (clampL l) (ofKey m) (j + 1)).z2)]), .val undef, .val undef] : List SQ) (by kernel_rfl) (by kernel_rfl) (by kernel_rfl) ?_ ?_
                                    · intro i o listed an wn ho hls hst hun hdep hI K' hK'
                                      have hi : i = 0 ∨ i = 1 ∨ i = 2 ∨ False := slot_cases (l := [0, 1, 2]) rfl ho hst
                                      rcases hi with rfl | rfl | rfl | hi
                                      · obtain rfl := Option.some.inj ho
                                        have hvp : an.eval (.tmp 11) = ptrTo br13_4 := hI.oldQ (by kernel_rfl) rfl
                                        exact hI.pureQ (by kernel_rfl) hls rfl rfl rfl _ (run_loadQ rfl hvp wn (hI.upd.blk (show Blk w15.drew br13_4 80 ar13_3 from Bxr13y4_14.out) (fun h => h)) Tryd.underlying80 rfl szR5 (by rw [hCr13_3.size]; exact Nat.le_of_ble_eq_true rfl)) (.val (.agg ar13_3)) rfl (congrArg Value.agg (extract_all _ 32 hCr13_3.size)) rfl hK'
                                      · obtain rfl := Option.some.inj ho
                                        have hvp : an.eval (.tmp 7) = ptrTo cr4_8 := hI.oldQ (by kernel_rfl) rfl
                                        exact hI.pureQ (by kernel_rfl) hls rfl rfl rfl _ (run_loadQ rfl hvp wn (hI.upd.blk (show Blk w15.drew cr4_8 80 A7_7 from Bxr4y6_14.out) (fun h => h)) Tryd.underlying80 rfl szR5 (by rw [hcl7.size]; exact Nat.le_of_ble_eq_true rfl)) (.val (.agg A7_7)) rfl (congrArg Value.agg (extract_all _ 32 hcl7.size)) rfl hK'
                                      · obtain rfl := Option.some.inj ho
                                        obtain ⟨vp, hvp, hsp⟩ := hI.haveQ 1 _ 56 (.val (.agg A7_7)) rfl rfl rfl (hdep ⟨1, .data⟩ (by simp) rfl)
                                        obtain rfl := hsp
                                        exact hI.callQ (by kernel_rfl) hls rfl rfl rfl 56 #[.tmp 56] _ rfl #[.agg A7_7] (by simp [eval_of hvp]) (run_enter Tryd.func56 (by kernel_rfl) (by kernel_rfl)) (.like (IsC 16 RN [rdblX ((refF (clampL l) (ofKey m) (j + 1)).x2) ((refF (clampL l) (ofKey m) (j + 1)).z2), rdblZ ((refF (clampL l) (ofKey m) (j + 1)).x2) ((refF (clampL l) (ofKey m) (j + 1)).z2)])) rfl rfl ((rdoubleL _ hcl7).mono fun _ _ h => h.sq) hK'
                                      · exact hi.elim
                                    · intro fuel an w16 hf hI
                                      obtain ⟨vr15_0, hvr15_0, hsr15_0⟩ := hI.haveQ 0 _ 55 (.val (.agg ar13_3)) rfl rfl rfl rfl
                                      obtain rfl := hsr15_0
                                      obtain ⟨vr15_1, hvr15_1, hsr15_1⟩ := hI.haveQ 1 _ 56 (.val (.agg A7_7)) rfl rfl rfl rfl
                                      obtain rfl := hsr15_1
                                      obtain ⟨vr15_2, hvr15_2, ar15_2, rfl, hCr15_2⟩ := hI.haveQ 2 _ 57 (.like (IsC 16 RN [rdblX ((refF (clampL l) (ofKey m) (j + 1)).x2) ((refF (clampL l) (ofKey m) (j + 1)).z2), rdblZ ((refF (clampL l) (ofKey m) (j + 1)).x2) ((refF (clampL l) (ofKey m) (j + 1)).z2)])) rfl rfl rfl rfl
                                      have hupd := hI.upd
                                      have ha := hI.act [(55, .agg ar13_3), (56, .agg A7_7), (57, .agg ar15_2)] (by simp [hvr15_0, hvr15_1, hvr15_2]) (by kernel_rfl)
                                      clear hI hvr15_0 hvr15_1 hvr15_2
                                      subst ha
                                      simp only [List.foldl_cons, List.foldl_nil, List.setIfInBounds_toArray, List.set_cons_zero, List.set_cons_succ]
                                      have Bxr0y0_15 := Lib.hid (hupd.blk (show Blk w15.drew br0_0 23 (numsA .u8 (clampL l)) from Bxr0y0_14.out) (fun h => h))
                                      have Bxr0y1_15 := Lib.hid (hupd.blk (show Blk w15.drew br0_1 23 (numsA .u8 m) from Bxr0y1_14.out) (fun h => h))
                                      have Bxr0y2_15 := Lib.hid (hupd.blk (show Blk w15.drew br0_2 23 (numsA .u8 zeroKL) from Bxr0y2_14.out) (fun h => h))
                                      have Bxr3y2_15 := Lib.hid (hupd.blk (show Blk w15.drew br3_2 45 ar3_1 from Bxr3y2_14.out) (fun h => h))
                                      have Bxr4y5_15 := Lib.hid (hupd.blk (show Blk w15.drew cr4_7 80 A7_6 from Bxr4y5_14.out) (fun h => h))
                                      have Bxr4y6_15 := Lib.hid (hupd.blk (show Blk w15.drew cr4_8 80 A7_7 from Bxr4y6_14.out) (fun h => h))
                                      have Bxr13y4_15 := Lib.hid (hupd.blk (show Blk w15.drew br13_4 80 ar13_3 from Bxr13y4_14.out) (fun h => h))
                                      have HU15 := Lib.hid (HU14.out.drew.trans hupd)
                                      clear hupd
                                      have hf0 : left #[true, true, true, false, false] 5 = 2 := by kernel_rfl
                                      have hf1 : left #[true, true, true, false, false] 5 ≤ fuel := hf
                                      obtain ⟨fu, rfl⟩ : ∃ fu, fuel = fu + 2 := ⟨fuel - 2, by omega⟩
                                      clear hf hf0 hf1
                                      refine wpAny_storeQ 3 rfl (by kernel_rfl) rfl rfl 80 (.tmp 6) (.tmp 55) rfl cr4_7 0 32 rfl ar13_3 rfl 80 A7_6 Bxr4y5_15.out szR5 hCr13_3.size (by rw [hcl6.size]; exact Nat.le_of_ble_eq_true rfl) hCr13_3.one' ?_
                                      intro ws15_0 hs15_0 hus15_0
                                      rw [splice_all _ _ 32 hcl6.size hCr13_3.size] at hs15_0
                                      have Bxr0y0_s15_0 := Lib.hid (hus15_0.blk Bxr0y0_15.out (fun e => hner4_5_Bxr0y0_s3_0.out e.symm))
                                      have Bxr0y1_s15_0 := Lib.hid (hus15_0.blk Bxr0y1_15.out (fun e => hner4_5_Bxr0y1_s3_0.out e.symm))
                                      have Bxr0y2_s15_0 := Lib.hid (hus15_0.blk Bxr0y2_15.out (fun e => hner4_5_Bxr0y2_s3_0.out e.symm))
                                      have Bxr3y2_s15_0 := Lib.hid (hus15_0.blk Bxr3y2_15.out (fun e => hner4_5_Bxr3y2_s3_0.out e.symm))
                                      have Bxr4y6_s15_0 := Lib.hid (hus15_0.blk Bxr4y6_15.out (fun e => hner4_5_r4_6.out e.symm))
                                      have Bxr13y4_s15_0 := Lib.hid (hus15_0.blk Bxr13y4_15.out (fun e => hner13_4_Bxr4y5_12.out e))
                                      have Bxr4y5_s15_0 := Lib.hid hs15_0
                                      have HU15_0 := Lib.hid (HU15.out.step hus15_0 (fun i hi h => absurd hi (Nat.not_lt.2 (h.symm ▸ hger4_5.out))))
                                      clear hs15_0 hus15_0
                                      refine wpAny_storeQ 4 rfl (by kernel_rfl) rfl rfl 80 (.tmp 7) (.tmp 57) rfl cr4_8 0 32 rfl ar15_2 rfl 80 A7_7 Bxr4y6_s15_0.out szR5 hCr15_2.size (by rw [hcl7.size]; exact Nat.le_of_ble_eq_true rfl) hCr15_2.one' ?_
                                      intro ws15_1 hs15_1 hus15_1
                                      rw [splice_all _ _ 32 hcl7.size hCr15_2.size] at hs15_1
                                      have Bxr0y0_s15_1 := Lib.hid (hus15_1.blk Bxr0y0_s15_0.out (fun e => hner4_6_Bxr0y0_s3_0.out e.symm))
                                      have Bxr0y1_s15_1 := Lib.hid (hus15_1.blk Bxr0y1_s15_0.out (fun e => hner4_6_Bxr0y1_s3_0.out e.symm))
                                      have Bxr0y2_s15_1 := Lib.hid (hus15_1.blk Bxr0y2_s15_0.out (fun e => hner4_6_Bxr0y2_s3_0.out e.symm))
                                      have Bxr3y2_s15_1 := Lib.hid (hus15_1.blk Bxr3y2_s15_0.out (fun e => hner4_6_Bxr3y2_s3_0.out e.symm))
                                      have Bxr4y5_s15_1 := Lib.hid (hus15_1.blk Bxr4y5_s15_0.out (fun e => hner4_5_r4_6.out e))
                                      have Bxr13y4_s15_1 := Lib.hid (hus15_1.blk Bxr13y4_s15_0.out (fun e => hner13_4_Bxr4y6_12.out e))
                                      have Bxr4y6_s15_1 := Lib.hid hs15_1
                                      have HU15_1 := Lib.hid (HU15_0.out.step hus15_1 (fun i hi h => absurd hi (Nat.not_lt.2 (h.symm ▸ hger4_6.out))))
                                      clear hs15_1 hus15_1
                                      refine wpAny_done (by kernel_rfl) ?_ _
                                      refine hK10 _ _ ?_
                                      clear hK10
                                      have hq16_1 : IntKind.wrap .i64 ((j : Int) - 1) = (j : Int) - 1 := IntWalk.i64_in _ (by omega)
                                      refine wp_region_qS 3 #[true, true, true] [] ([.val (.int .i64 (j : Int)), .val (.int .i64 ((j : Int) - 1)), .val (.int .i64 ((j : Int) - 1))] : List SQ) (by kernel_rfl) (by kernel_rfl) (by kernel_rfl) ?_ ?_
                                      · intro i o listed an wn ho hls hst hun hdep hI hpre K' hK'
                                        have hi : i = 0 ∨ i = 1 ∨ i = 2 ∨ False := slot_cases (l := [0, 1, 2]) rfl ho hst
                                        rcases hi with rfl | rfl | rfl | hi
                                        · obtain rfl := Option.some.inj ho
                                          have hvp : an.eval (.tmp 8) = .int .i64 (j : Int) := hI.oldS hpre (by kernel_rfl) rfl
                                          exact hI.pureQ (by kernel_rfl) hls rfl rfl rfl (.int .i64 (j : Int)) (run_moveQ (.inl rfl) hvp wn) (.val (.int .i64 (j : Int))) rfl rfl rfl hK'
                                        · obtain rfl := Option.some.inj ho
                                          obtain ⟨vp, hvp, hsp⟩ := hI.haveQ 0 _ 33 (.val (.int .i64 (j : Int))) rfl rfl rfl (hdep ⟨0, .data⟩ (by simp) rfl)
                                          obtain rfl := hsp
                                          exact hI.pureQ (by kernel_rfl) hls rfl rfl rfl (.int .i64 ((j : Int) - 1)) (run_sub rfl (eval_of hvp) rfl hq16_1 wn) (.val (.int .i64 ((j : Int) - 1))) rfl rfl rfl hK'
                                        · obtain rfl := Option.some.inj ho
                                          obtain ⟨vp, hvp, hsp⟩ := hI.haveQ 1 _ 34 (.val (.int .i64 ((j : Int) - 1))) rfl rfl rfl (hdep ⟨1, .data⟩ (by simp) rfl)
                                          obtain rfl := hsp
                                          exact hI.pureQ (by kernel_rfl) hls rfl rfl rfl (.int .i64 ((j : Int) - 1)) (run_moveQ (.inr rfl) (eval_of hvp) wn) (.val (.int .i64 ((j : Int) - 1))) rfl rfl rfl hK'
                                        · exact hi.elim
                                      · intro an w17 hI
                                        obtain ⟨vr16_0, hvr16_0, hsr16_0⟩ := hI.haveQ 0 _ 33 (.val (.int .i64 (j : Int))) rfl rfl rfl rfl
                                        obtain rfl := hsr16_0
                                        obtain ⟨vr16_1, hvr16_1, hsr16_1⟩ := hI.haveQ 1 _ 34 (.val (.int .i64 ((j : Int) - 1))) rfl rfl rfl rfl
                                        obtain rfl := hsr16_1
                                        obtain ⟨vr16_2, hvr16_2, hsr16_2⟩ := hI.haveQ 2 _ 8 (.val (.int .i64 ((j : Int) - 1))) rfl rfl rfl rfl
                                        obtain rfl := hsr16_2
                                        have hupd := hI.upd
                                        have ha := hI.act [(33, .int .i64 (j : Int)), (34, .int .i64 ((j : Int) - 1)), (8, .int .i64 ((j : Int) - 1))] (by simp [hvr16_0, hvr16_1, hvr16_2]) (by kernel_rfl)
                                        clear hI hvr16_0 hvr16_1 hvr16_2
                                        subst ha
                                        simp only [List.foldl_cons, List.foldl_nil, List.setIfInBounds_toArray, List.set_cons_zero, List.set_cons_succ]
                                        have Bxr0y0_16 := Lib.hid (hupd.blk (show Blk ws15_1 br0_0 23 (numsA .u8 (clampL l)) from Bxr0y0_s15_1.out) (fun h => h))
                                        have Bxr0y1_16 := Lib.hid (hupd.blk (show Blk ws15_1 br0_1 23 (numsA .u8 m) from Bxr0y1_s15_1.out) (fun h => h))
                                        have Bxr0y2_16 := Lib.hid (hupd.blk (show Blk ws15_1 br0_2 23 (numsA .u8 zeroKL) from Bxr0y2_s15_1.out) (fun h => h))
                                        have Bxr3y2_16 := Lib.hid (hupd.blk (show Blk ws15_1 br3_2 45 ar3_1 from Bxr3y2_s15_1.out) (fun h => h))
                                        have Bxr4y5_16 := Lib.hid (hupd.blk (show Blk ws15_1 cr4_7 80 ar13_3 from Bxr4y5_s15_1.out) (fun h => h))
                                        have Bxr4y6_16 := Lib.hid (hupd.blk (show Blk ws15_1 cr4_8 80 ar15_2 from Bxr4y6_s15_1.out) (fun h => h))
                                        have Bxr13y4_16 := Lib.hid (hupd.blk (show Blk ws15_1 br13_4 80 ar13_3 from Bxr13y4_s15_1.out) (fun h => h))
                                        have HU16 := Lib.hid (HU15_1.out.trans hupd)
                                        clear hupd
                                        refine wpOps_nil ?_
                                        exact ⟨⟨j, _, _, _, _, _, _, _, _, _, _, _, _, _, _, _, _, _, _, _, _, _, _, _, _, _, _, _, _, _, _, _, _, _, _, _, by omega, rfl, HU16.out, Bxr4y5_16.out, hCr13_3.to (by rw [refF_step (clampL l) (ofKey m) j (by omega), Hcd22.out]; rfl), Bxr4y6_16.out, hCr15_2.to (by rw [refF_step (clampL l) (ofKey m) j (by omega), Hcd22.out]; rfl), Bxr0y0_16.out, Bxr0y1_16.out, Bxr0y2_16.out, Bxr3y2_16.out⟩, by show ((j : Int) - 1 + 1).toNat < ((j : Int) + 1).toNat; omega⟩
                                  · have Hcd23 := Lib.hid hcd
                                    clear hcd
                                    refine wp_region_lcls _ _ _ _ _ rfl (by kernel_rfl) 80 56 _ 6 11 7 58 59 60 rfl rfl rfl rfl rfl rfl rfl rfl rfl rfl rfl rfl rfl rfl rfl (by kernel_rfl) (by kernel_rfl) (by kernel_rfl) (by kernel_rfl) (by kernel_rfl) (by kernel_rfl) (by kernel_rfl) (by kernel_rfl) (by kernel_rfl) cr4_7 cr4_8 br13_4 A7_6 ar13_3 A7_7 _ _ _ Bxr4y5_14.out Bxr4y6_14.out Bxr13y4_14.out (Ne.symm hner4_5_r4_6.out) hner13_4_Bxr4y5_12.out rfl rfl rfl (Nat.le_of_ble_eq_true rfl) (Nat.le_of_ble_eq_true rfl) (Nat.le_of_ble_eq_true rfl) rfl Tryd.underlying80 rfl szR5 hcl6.size hcl7.size hCr13_3.size hCr13_3.one' (Ch 16 RN [rdblX ((refF (clampL l) (ofKey m) (j + 1)).x1) ((refF (clampL l) (ofKey m) (j + 1)).z1), rdblZ ((refF (clampL l) (ofKey m) (j + 1)).x1) ((refF (clampL l) (ofKey m) (j + 1)).z1)]) (fun C hC => ⟨hC.size, hC.one'⟩) (run_enter Tryd.func56 (by kernel_rfl) (by kernel_rfl) _) (fun W => (rdoubleL W hcl6).mono fun _ _ h => h) ?_
                                    intro C24 wt24 hC24 ht24 kt24 ut24
                                    simp only [List.setIfInBounds_toArray, List.set_cons_zero, List.set_cons_succ]
                                    have Bxr0y0_k24 := Lib.hid (ut24.blk (show Blk w15.drew br0_0 23 (numsA .u8 (clampL l)) from Bxr0y0_14.out) (fun e => e.elim (fun e => (Ne.symm hner4_5_Bxr0y0_s3_0.out) e) (fun e => (Ne.symm hner4_6_Bxr0y0_s3_0.out) e)))
                                    have Bxr0y1_k24 := Lib.hid (ut24.blk (show Blk w15.drew br0_1 23 (numsA .u8 m) from Bxr0y1_14.out) (fun e => e.elim (fun e => (Ne.symm hner4_5_Bxr0y1_s3_0.out) e) (fun e => (Ne.symm hner4_6_Bxr0y1_s3_0.out) e)))
                                    have Bxr0y2_k24 := Lib.hid (ut24.blk (show Blk w15.drew br0_2 23 (numsA .u8 zeroKL) from Bxr0y2_14.out) (fun e => e.elim (fun e => (Ne.symm hner4_5_Bxr0y2_s3_0.out) e) (fun e => (Ne.symm hner4_6_Bxr0y2_s3_0.out) e)))
                                    have Bxr3y2_k24 := Lib.hid (ut24.blk (show Blk w15.drew br3_2 45 ar3_1 from Bxr3y2_14.out) (fun e => e.elim (fun e => (Ne.symm hner4_5_Bxr3y2_s3_0.out) e) (fun e => (Ne.symm hner4_6_Bxr3y2_s3_0.out) e)))
                                    have Bxr13y4_k24 := Lib.hid (ut24.blk (show Blk w15.drew br13_4 80 ar13_3 from Bxr13y4_14.out) (fun e => e.elim (fun e => hner13_4_Bxr4y5_12.out e) (fun e => hner13_4_Bxr4y6_12.out e)))
                                    have Bxr4y5_k24 := Lib.hid ht24
                                    have Bxr4y6_k24 := Lib.hid kt24
                                    have HUk24 := Lib.hid (HU14.out.drew.step ut24 (fun i hi h => h.elim (fun h => absurd hi (Nat.not_lt.2 (h.symm ▸ hger4_5.out))) (fun h => absurd hi (Nat.not_lt.2 (h.symm ▸ hger4_6.out)))))
                                    clear ht24 kt24 ut24
                                    refine hK10 _ _ ?_
                                    clear hK10
                                    have hq18_1 : IntKind.wrap .i64 ((j : Int) - 1) = (j : Int) - 1 := IntWalk.i64_in _ (by omega)
                                    refine wp_region_qS 3 #[true, true, true] [] ([.val (.int .i64 (j : Int)), .val (.int .i64 ((j : Int) - 1)), .val (.int .i64 ((j : Int) - 1))] : List SQ) (by kernel_rfl) (by kernel_rfl) (by kernel_rfl) ?_ ?_
                                    · intro i o listed an wn ho hls hst hun hdep hI hpre K' hK'
                                      have hi : i = 0 ∨ i = 1 ∨ i = 2 ∨ False := slot_cases (l := [0, 1, 2]) rfl ho hst
                                      rcases hi with rfl | rfl | rfl | hi
                                      · obtain rfl := Option.some.inj ho
                                        have hvp : an.eval (.tmp 8) = .int .i64 (j : Int) := hI.oldS hpre (by kernel_rfl) rfl
                                        exact hI.pureQ (by kernel_rfl) hls rfl rfl rfl (.int .i64 (j : Int)) (run_moveQ (.inl rfl) hvp wn) (.val (.int .i64 (j : Int))) rfl rfl rfl hK'
                                      · obtain rfl := Option.some.inj ho
                                        obtain ⟨vp, hvp, hsp⟩ := hI.haveQ 0 _ 33 (.val (.int .i64 (j : Int))) rfl rfl rfl (hdep ⟨0, .data⟩ (by simp) rfl)
                                        obtain rfl := hsp
                                        exact hI.pureQ (by kernel_rfl) hls rfl rfl rfl (.int .i64 ((j : Int) - 1)) (run_sub rfl (eval_of hvp) rfl hq18_1 wn) (.val (.int .i64 ((j : Int) - 1))) rfl rfl rfl hK'
                                      · obtain rfl := Option.some.inj ho
                                        obtain ⟨vp, hvp, hsp⟩ := hI.haveQ 1 _ 34 (.val (.int .i64 ((j : Int) - 1))) rfl rfl rfl (hdep ⟨1, .data⟩ (by simp) rfl)
                                        obtain rfl := hsp
                                        exact hI.pureQ (by kernel_rfl) hls rfl rfl rfl (.int .i64 ((j : Int) - 1)) (run_moveQ (.inr rfl) (eval_of hvp) wn) (.val (.int .i64 ((j : Int) - 1))) rfl rfl rfl hK'
                                      · exact hi.elim
                                    · intro an w19 hI
                                      obtain ⟨vr18_0, hvr18_0, hsr18_0⟩ := hI.haveQ 0 _ 33 (.val (.int .i64 (j : Int))) rfl rfl rfl rfl
                                      obtain rfl := hsr18_0
                                      obtain ⟨vr18_1, hvr18_1, hsr18_1⟩ := hI.haveQ 1 _ 34 (.val (.int .i64 ((j : Int) - 1))) rfl rfl rfl rfl
                                      obtain rfl := hsr18_1
                                      obtain ⟨vr18_2, hvr18_2, hsr18_2⟩ := hI.haveQ 2 _ 8 (.val (.int .i64 ((j : Int) - 1))) rfl rfl rfl rfl
                                      obtain rfl := hsr18_2
                                      have hupd := hI.upd
                                      have ha := hI.act [(33, .int .i64 (j : Int)), (34, .int .i64 ((j : Int) - 1)), (8, .int .i64 ((j : Int) - 1))] (by simp [hvr18_0, hvr18_1, hvr18_2]) (by kernel_rfl)
                                      clear hI hvr18_0 hvr18_1 hvr18_2
                                      subst ha
                                      simp only [List.foldl_cons, List.foldl_nil, List.setIfInBounds_toArray, List.set_cons_zero, List.set_cons_succ]
                                      have Bxr0y0_18 := Lib.hid (hupd.blk (show Blk wt24 br0_0 23 (numsA .u8 (clampL l)) from Bxr0y0_k24.out) (fun h => h))
                                      have Bxr0y1_18 := Lib.hid (hupd.blk (show Blk wt24 br0_1 23 (numsA .u8 m) from Bxr0y1_k24.out) (fun h => h))
                                      have Bxr0y2_18 := Lib.hid (hupd.blk (show Blk wt24 br0_2 23 (numsA .u8 zeroKL) from Bxr0y2_k24.out) (fun h => h))
                                      have Bxr3y2_18 := Lib.hid (hupd.blk (show Blk wt24 br3_2 45 ar3_1 from Bxr3y2_k24.out) (fun h => h))
                                      have Bxr4y5_18 := Lib.hid (hupd.blk (show Blk wt24 cr4_7 80 C24 from Bxr4y5_k24.out) (fun h => h))
                                      have Bxr4y6_18 := Lib.hid (hupd.blk (show Blk wt24 cr4_8 80 ar13_3 from Bxr4y6_k24.out) (fun h => h))
                                      have Bxr13y4_18 := Lib.hid (hupd.blk (show Blk wt24 br13_4 80 ar13_3 from Bxr13y4_k24.out) (fun h => h))
                                      have HU18 := Lib.hid (HUk24.out.trans hupd)
                                      clear hupd
                                      refine wpOps_nil ?_
                                      exact ⟨⟨j, _, _, _, _, _, _, _, _, _, _, _, _, _, _, _, _, _, _, _, _, _, _, _, _, _, _, _, _, _, _, _, _, _, _, _, by omega, rfl, HU18.out, Bxr4y5_18.out, hC24.to (by rw [refF_step (clampL l) (ofKey m) j (by omega), Hcd23.out]; rfl), Bxr4y6_18.out, hCr13_3.to (by rw [refF_step (clampL l) (ofKey m) j (by omega), Hcd23.out]; rfl), Bxr0y0_18.out, Bxr0y1_18.out, Bxr0y2_18.out, Bxr3y2_18.out⟩, by show ((j : Int) - 1 + 1).toNat < ((j : Int) + 1).toNat; omega⟩
                · obtain rfl : k = 0 := by omega
                  rw [show ((0 : Nat) : Int) - 1 = -1 by omega]
                  clear hlt
                  refine wp_seq_k fun K25 hK25 => ?_
                  refine wp_seq_k fun K26 hK26 => ?_
                  have hq19_1 : decide (((0 : Int) ≤ (-1) : Prop)) = false := decide_eq_false (by omega)
                  refine wp_region_qS 2 #[true, true] [] ([.val (.int .i64 (-1)), .val (.bool false)] : List SQ) (by kernel_rfl) (by kernel_rfl) (by kernel_rfl) ?_ ?_
                  · intro i o listed an wn ho hls hst hun hdep hI hpre K' hK'
                    have hi : i = 0 ∨ i = 1 ∨ False := slot_cases (l := [0, 1]) rfl ho hst
                    rcases hi with rfl | rfl | hi
                    · obtain rfl := Option.some.inj ho
                      have hvp : an.eval (.tmp 8) = .int .i64 (-1) := hI.oldQ (by kernel_rfl) rfl
                      exact hI.pureQ (by kernel_rfl) hls rfl rfl rfl (.int .i64 (-1)) (run_moveQ (.inl rfl) hvp wn) (.val (.int .i64 (-1))) rfl rfl rfl hK'
                    · obtain rfl := Option.some.inj ho
                      obtain ⟨vp, hvp, hsp⟩ := hI.haveQ 0 _ 31 (.val (.int .i64 (-1))) rfl rfl rfl (hdep ⟨0, .data⟩ (by simp) rfl)
                      obtain rfl := hsp
                      exact hI.pureQ (by kernel_rfl) hls rfl rfl rfl (.bool false) (run_geq rfl (eval_of hvp) rfl hq19_1 wn) (.val (.bool false)) rfl rfl rfl hK'
                    · exact hi.elim
                  · intro an w20 hI
                    obtain ⟨vr19_0, hvr19_0, hsr19_0⟩ := hI.haveQ 0 _ 31 (.val (.int .i64 (-1))) rfl rfl rfl rfl
                    obtain rfl := hsr19_0
                    obtain ⟨vr19_1, hvr19_1, hsr19_1⟩ := hI.haveQ 1 _ 32 (.val (.bool false)) rfl rfl rfl rfl
                    obtain rfl := hsr19_1
                    have hupd := hI.upd
                    have ha := hI.act [(31, .int .i64 (-1)), (32, .bool false)] (by simp [hvr19_0, hvr19_1]) (by kernel_rfl)
                    clear hI hvr19_0 hvr19_1
                    subst ha
                    simp only [List.foldl_cons, List.foldl_nil, List.setIfInBounds_toArray, List.set_cons_zero, List.set_cons_succ]
                    have Bxr0y0_19 := Lib.hid (hupd.blk (show Blk wl7 br0_0 23 (numsA .u8 (clampL l)) from Bxr0y0_l7.out) (fun h => h))
                    have Bxr0y1_19 := Lib.hid (hupd.blk (show Blk wl7 br0_1 23 (numsA .u8 m) from Bxr0y1_l7.out) (fun h => h))
                    have Bxr0y2_19 := Lib.hid (hupd.blk (show Blk wl7 br0_2 23 (numsA .u8 zeroKL) from Bxr0y2_l7.out) (fun h => h))
                    have Bxr3y2_19 := Lib.hid (hupd.blk (show Blk wl7 br3_2 45 ar3_1 from Bxr3y2_l7.out) (fun h => h))
                    have Bxr4y5_19 := Lib.hid (hupd.blk (show Blk wl7 cr4_7 80 A7_6 from Bxr4y5_l7.out) (fun h => h))
                    have Bxr4y6_19 := Lib.hid (hupd.blk (show Blk wl7 cr4_8 80 A7_7 from Bxr4y6_l7.out) (fun h => h))
                    have HU19 := Lib.hid (HUl7.out.trans hupd)
                    clear hupd
                    refine wpOps_nil ?_
                    refine hK26 _ _ ?_
                    clear hK26
                    refine wp_cond_false rfl ?_
                    refine wp_exit_then ?_
                    refine hK5 _ _ ?_
                    clear hK5
                    refine wp_seq_k fun K27 hK27 => ?_
                    refine wp_region_q #[true, true, true, true, true, true, true, false] ([.val (.pointer (some ⟨cr4_7, 0 + 0, none⟩)), .val (.agg (A7_6.extract (0 + 0) (0 + 0 + 16))), .val (.pointer (some ⟨cr4_7, 0 + 16, none⟩)), .val (.agg (A7_6.extract (0 + 16) (0 + 16 + 16))), .like (IsC 16 RN [finv ((refF (clampL l) (ofKey m) 0).z1)]), .like (IsC 16 RN [((refF (clampL l) (ofKey m) 0).x1) * (finv ((refF (clampL l) (ofKey m) 0).z1))]), .val (.agg (numsA .u8 (keyOf (((refF (clampL l) (ofKey m) 0).x1) * (finv ((refF (clampL l) (ofKey m) 0).z1)))))), .val undef] : List SQ) (by kernel_rfl) (by kernel_rfl) (by kernel_rfl) ?_ ?_
                    · intro i o listed an wn ho hls hst hun hdep hI K' hK'
                      have hi : i = 0 ∨ i = 1 ∨ i = 2 ∨ i = 3 ∨ i = 4 ∨ i = 5 ∨ i = 6 ∨ False := slot_cases (l := [0, 1, 2, 3, 4, 5, 6]) rfl ho hst
                      rcases hi with rfl | rfl | rfl | rfl | rfl | rfl | rfl | hi
                      · obtain rfl := Option.some.inj ho
                        have hvp : an.eval (.tmp 6) = ptrTo cr4_7 := hI.oldQ (by kernel_rfl) rfl
                        exact hI.pureQ (by kernel_rfl) hls rfl rfl rfl (.pointer (some ⟨cr4_7, 0 + 0, none⟩)) (run_fieldQ (g := cr4_7) (off := 0) (k := 0) rfl hvp Tryd.underlying80 rfl (by rfl) szN wn) (.val (.pointer (some ⟨cr4_7, 0 + 0, none⟩))) rfl rfl rfl hK'
                      · obtain rfl := Option.some.inj ho
                        obtain ⟨vp, hvp, hsp⟩ := hI.haveQ 0 _ 61 (.val (.pointer (some ⟨cr4_7, 0 + 0, none⟩))) rfl rfl rfl (hdep ⟨0, .data⟩ (by simp) rfl)
                        obtain rfl := hsp
                        exact hI.pureQ (by kernel_rfl) hls rfl rfl rfl (.agg (A7_6.extract (0 + 0) (0 + 0 + 16))) (run_loadQ rfl (eval_of hvp) wn (hI.upd.blk (show Blk w20.drew cr4_7 80 A7_6 from Bxr4y5_19.out) (fun h => h)) Tryd.underlying45 rfl szN (by rw [hcl6.size]; exact Nat.le_of_ble_eq_true rfl)) (.val (.agg (A7_6.extract (0 + 0) (0 + 0 + 16)))) rfl rfl rfl hK'
                      · obtain rfl := Option.some.inj ho
                        have hvp : an.eval (.tmp 6) = ptrTo cr4_7 := hI.oldQ (by kernel_rfl) rfl
                        exact hI.pureQ (by kernel_rfl) hls rfl rfl rfl (.pointer (some ⟨cr4_7, 0 + 16, none⟩)) (run_fieldQ (g := cr4_7) (off := 0) (k := 16) rfl hvp Tryd.underlying80 rfl (by rfl) szN wn) (.val (.pointer (some ⟨cr4_7, 0 + 16, none⟩))) rfl rfl rfl hK'
                      · obtain rfl := Option.some.inj ho
                        obtain ⟨vp, hvp, hsp⟩ := hI.haveQ 2 _ 63 (.val (.pointer (some ⟨cr4_7, 0 + 16, none⟩))) rfl rfl rfl (hdep ⟨2, .data⟩ (by simp) rfl)
                        obtain rfl := hsp
                        exact hI.pureQ (by kernel_rfl) hls rfl rfl rfl (.agg (A7_6.extract (0 + 16) (0 + 16 + 16))) (run_loadQ rfl (eval_of hvp) wn (hI.upd.blk (show Blk w20.drew cr4_7 80 A7_6 from Bxr4y5_19.out) (fun h => h)) Tryd.underlying45 rfl szN (by rw [hcl6.size]; exact Nat.le_of_ble_eq_true rfl)) (.val (.agg (A7_6.extract (0 + 16) (0 + 16 + 16)))) rfl rfl rfl hK'
                      · obtain rfl := Option.some.inj ho
                        obtain ⟨vp, hvp, hsp⟩ := hI.haveQ 3 _ 64 (.val (.agg (A7_6.extract (0 + 16) (0 + 16 + 16)))) rfl rfl rfl (hdep ⟨3, .data⟩ (by simp) rfl)
                        obtain rfl := hsp
                        exact hI.callQ (by kernel_rfl) hls rfl rfl rfl 59 #[.tmp 64] _ rfl #[.agg (A7_6.extract (0 + 16) (0 + 16 + 16))] (by simp [eval_of hvp]) (run_enter Tryd.func59 (by kernel_rfl) (by kernel_rfl)) (.like (IsC 16 RN [finv ((refF (clampL l) (ofKey m) 0).z1)])) rfl rfl ((rInvE (hcl6.at 1 (0 + 16) rfl rfl)).mono fun _ _ h => h.sq) hK'
                      · obtain rfl := Option.some.inj ho
                        obtain ⟨vp, hvp, hsp⟩ := hI.haveQ 1 _ 62 (.val (.agg (A7_6.extract (0 + 0) (0 + 0 + 16)))) rfl rfl rfl (hdep ⟨1, .data⟩ (by simp) rfl)
                        obtain rfl := hsp
                        obtain ⟨vq, hvq, aq, rfl, hCq⟩ := hI.haveQ 4 _ 65 (.like (IsC 16 RN [finv ((refF (clampL l) (ofKey m) 0).z1)])) rfl rfl rfl (hdep ⟨4, .data⟩ (by simp) rfl)
                        exact hI.callQ (by kernel_rfl) hls rfl rfl rfl 58 #[.tmp 62, .tmp 65] _ rfl #[.agg (A7_6.extract (0 + 0) (0 + 0 + 16)), .agg aq] (by simp [eval_of hvp, eval_of hvq]) (run_enter Tryd.func58 (by kernel_rfl) (by kernel_rfl)) (.like (IsC 16 RN [((refF (clampL l) (ofKey m) 0).x1) * (finv ((refF (clampL l) (ofKey m) 0).z1))])) rfl rfl ((rMulE (hcl6.at 0 (0 + 0) rfl rfl) hCq).mono fun _ _ h => h.sq) hK'
                      · obtain rfl := Option.some.inj ho
                        obtain ⟨vp, hvp, ap, rfl, hCp⟩ := hI.haveQ 5 _ 66 (.like (IsC 16 RN [((refF (clampL l) (ofKey m) 0).x1) * (finv ((refF (clampL l) (ofKey m) 0).z1))])) rfl rfl rfl (hdep ⟨5, .data⟩ (by simp) rfl)
                        exact hI.callQ (by kernel_rfl) hls rfl rfl rfl 57 #[.tmp 66] _ rfl #[.agg ap] (by simp [eval_of hvp]) (run_enter Tryd.func57 (by kernel_rfl) (by kernel_rfl)) (.val (.agg (numsA .u8 (keyOf (((refF (clampL l) (ofKey m) 0).x1) * (finv ((refF (clampL l) (ofKey m) 0).z1))))))) rfl rfl ((rBytesE hCp).mono fun _ _ h => ret_val h) hK'
                      · exact hi.elim
                    · intro fuel an w21 hf hI
                      obtain ⟨vr20_0, hvr20_0, hsr20_0⟩ := hI.haveQ 0 _ 61 (.val (.pointer (some ⟨cr4_7, 0 + 0, none⟩))) rfl rfl rfl rfl
                      obtain rfl := hsr20_0
                      obtain ⟨vr20_1, hvr20_1, hsr20_1⟩ := hI.haveQ 1 _ 62 (.val (.agg (A7_6.extract (0 + 0) (0 + 0 + 16)))) rfl rfl rfl rfl
                      obtain rfl := hsr20_1
                      obtain ⟨vr20_2, hvr20_2, hsr20_2⟩ := hI.haveQ 2 _ 63 (.val (.pointer (some ⟨cr4_7, 0 + 16, none⟩))) rfl rfl rfl rfl
                      obtain rfl := hsr20_2
                      obtain ⟨vr20_3, hvr20_3, hsr20_3⟩ := hI.haveQ 3 _ 64 (.val (.agg (A7_6.extract (0 + 16) (0 + 16 + 16)))) rfl rfl rfl rfl
                      obtain rfl := hsr20_3
                      obtain ⟨vr20_4, hvr20_4, ar20_4, rfl, hCr20_4⟩ := hI.haveQ 4 _ 65 (.like (IsC 16 RN [finv ((refF (clampL l) (ofKey m) 0).z1)])) rfl rfl rfl rfl
                      obtain ⟨vr20_5, hvr20_5, ar20_5, rfl, hCr20_5⟩ := hI.haveQ 5 _ 66 (.like (IsC 16 RN [((refF (clampL l) (ofKey m) 0).x1) * (finv ((refF (clampL l) (ofKey m) 0).z1))])) rfl rfl rfl rfl
                      obtain ⟨vr20_6, hvr20_6, hsr20_6⟩ := hI.haveQ 6 _ 67 (.val (.agg (numsA .u8 (keyOf (((refF (clampL l) (ofKey m) 0).x1) * (finv ((refF (clampL l) (ofKey m) 0).z1))))))) rfl rfl rfl rfl
                      obtain rfl := hsr20_6
                      have hupd := hI.upd
                      have ha := hI.act [(61, .pointer (some ⟨cr4_7, 0 + 0, none⟩)), (62, .agg (A7_6.extract (0 + 0) (0 + 0 + 16))), (63, .pointer (some ⟨cr4_7, 0 + 16, none⟩)), (64, .agg (A7_6.extract (0 + 16) (0 + 16 + 16))), (65, .agg ar20_4), (66, .agg ar20_5), (67, .agg (numsA .u8 (keyOf (((refF (clampL l) (ofKey m) 0).x1) * (finv ((refF (clampL l) (ofKey m) 0).z1))))))] (by simp [hvr20_0, hvr20_1, hvr20_2, hvr20_3, hvr20_4, hvr20_5, hvr20_6]) (by kernel_rfl)
                      clear hI hvr20_0 hvr20_1 hvr20_2 hvr20_3 hvr20_4 hvr20_5 hvr20_6
                      subst ha
                      simp only [List.foldl_cons, List.foldl_nil, List.setIfInBounds_toArray, List.set_cons_zero, List.set_cons_succ]
                      have Bxr0y0_20 := Lib.hid (hupd.blk (show Blk w20.drew br0_0 23 (numsA .u8 (clampL l)) from Bxr0y0_19.out) (fun h => h))
                      have Bxr0y1_20 := Lib.hid (hupd.blk (show Blk w20.drew br0_1 23 (numsA .u8 m) from Bxr0y1_19.out) (fun h => h))
                      have Bxr0y2_20 := Lib.hid (hupd.blk (show Blk w20.drew br0_2 23 (numsA .u8 zeroKL) from Bxr0y2_19.out) (fun h => h))
                      have Bxr3y2_20 := Lib.hid (hupd.blk (show Blk w20.drew br3_2 45 ar3_1 from Bxr3y2_19.out) (fun h => h))
                      have Bxr4y5_20 := Lib.hid (hupd.blk (show Blk w20.drew cr4_7 80 A7_6 from Bxr4y5_19.out) (fun h => h))
                      have Bxr4y6_20 := Lib.hid (hupd.blk (show Blk w20.drew cr4_8 80 A7_7 from Bxr4y6_19.out) (fun h => h))
                      have HU20 := Lib.hid (HU19.out.drew.trans hupd)
                      clear hupd
                      have hf0 : left #[true, true, true, true, true, true, true, false] 8 = 1 := by kernel_rfl
                      have hf1 : left #[true, true, true, true, true, true, true, false] 8 ≤ fuel := hf
                      obtain ⟨fu, rfl⟩ : ∃ fu, fuel = fu + 1 := ⟨fuel - 1, by omega⟩
                      clear hf hf0 hf1
                      refine wpAny_storeQ 7 rfl (by kernel_rfl) rfl rfl 23 (.tmp 4) (.tmp 67) rfl br0_2 0 32 rfl (numsA .u8 (keyOf (((refF (clampL l) (ofKey m) 0).x1) * (finv ((refF (clampL l) (ofKey m) 0).z1))))) rfl 23 (numsA .u8 zeroKL) Bxr0y2_20.out sizeKey (by rw [numsA_size]; exact keyOf_length _) (by rw [(show (numsA _ _).size = 32 by rw [numsA_size]; exact zeroKL_length)]; exact Nat.le_of_ble_eq_true rfl) (numsA_one _ _) ?_
                      intro ws20_0 hs20_0 hus20_0
                      rw [splice_all _ _ 32 (show (numsA _ _).size = 32 by rw [numsA_size]; exact zeroKL_length) (by rw [numsA_size]; exact keyOf_length _)] at hs20_0
                      have Bxr0y0_s20_0 := Lib.hid (hus20_0.blk Bxr0y0_20.out (fun e => hner0_0_r0_2.out e))
                      have Bxr0y1_s20_0 := Lib.hid (hus20_0.blk Bxr0y1_20.out (fun e => hner0_1_r0_2.out e))
                      have Bxr3y2_s20_0 := Lib.hid (hus20_0.blk Bxr3y2_20.out (fun e => hner3_2_Bxr0y2_s2_0.out e))
                      have Bxr4y5_s20_0 := Lib.hid (hus20_0.blk Bxr4y5_20.out (fun e => hner4_5_Bxr0y2_s3_0.out e))
                      have Bxr4y6_s20_0 := Lib.hid (hus20_0.blk Bxr4y6_20.out (fun e => hner4_6_Bxr0y2_s3_0.out e))
                      have Bxr0y2_s20_0 := Lib.hid hs20_0
                      have HU20_0 := Lib.hid (HU20.out.step hus20_0 (fun i hi h => absurd hi (Nat.not_lt.2 (h.symm ▸ hger0_2.out))))
                      clear hs20_0 hus20_0
                      refine wpAny_done (by kernel_rfl) ?_ _
                      refine hK27 _ _ ?_
                      clear hK27
                      refine wp_ret ?_
                      try dsimp only [Exit.then]
                      try dsimp only [Exit.inBlock]
                      exact bodyPost_ret (v := .agg (numsA .u8 (keyOf (((refF (clampL l) (ofKey m) 0).x1) * (finv ((refF (clampL l) (ofKey m) 0).z1)))))) (results_cell_row (fn := Tryd.f18) (p := 4) (ty := 23) rfl _ _ br0_2 23 _ (0, 0) _ rfl Bxr0y2_s20_0.out Tryd.underlying23 rfl (by rw [numsA_size, keyOf_length _]; exact sizeKey)) rfl ⟨rfl, HU20_0.out⟩
theorem rmultiplyL {l m : List Int} (w : World) (hl : l.length = 32) (hd : Digs 256 l) (hm : m.length = 32) (hn : Digs 256 m) : Calls Tryd.prog 18 #[.agg (numsA .u8 l), .agg (numsA .u8 m)] w fun e w' => e = .returned (.agg (numsA .u8 (keyOf (ladV (clampL l) (ofKey m))))) ∧ Upd (fun _ => False) w w' := by
  have h := rmultiplyR w hl hd hm hn
  rw [show (refF (clampL l) (ofKey m) 0).x1 * finv (refF (clampL l) (ofKey m) 0).z1 = refV (clampL l) (ofKey m) from rfl, refV_eq _ (clamped_of hl hd)] at h
  exact h
set_option maxHeartbeats 4000000 in
theorem rpublicL {l : List Int} (w : World) (hl : l.length = 32) (hd : Digs 256 l) :
    Calls Tryd.prog 22 #[.agg (numsA .u8 l)] w fun e w' => e = .returned (.agg (numsA .u8 (keyOf (ladV (clampL l) (ofKey keyY0))))) ∧ Upd (fun _ => False) w w' := by
  have HU := Lib.hid (Upd.refl (fun _ => False) w)
  go_enter Tryd.func22, Tryd.ntmps22
  refine wp_seq_k fun K0 hK0 => ?_
  refine wp_region_qS 2 #[true, true] [] ([.blk ptrTo 23 (fun z => z = numsA .u8 l), .blk ptrTo 23 (fun z => z = numsA .u8 zeroKL)] : List SQ) (by kernel_rfl) (by kernel_rfl) (by kernel_rfl) ?_ ?_
  · intro i o listed an wn ho hls hst hun hdep hI hpre K' hK'
    have hi : i = 0 ∨ i = 1 ∨ False := slot_cases (l := [0, 1]) rfl ho hst
    rcases hi with rfl | rfl | hi
    · obtain rfl := Option.some.inj ho
      have hvp : an.eval (.tmp 0) = .agg (numsA .u8 l) := hI.oldQ (by kernel_rfl) rfl
      exact hI.newQ (by kernel_rfl) hls (Nat.le_refl _) (newsQ_spec (l := [0, 1]) (by kernel_rfl) ⟨⟨_, _, rfl⟩, ⟨_, _, rfl⟩, trivial⟩) rfl rfl rfl 23 _ (fun z => z = numsA .u8 l) (run_boxQ rfl hvp wn) rfl rfl hK'
    · obtain rfl := Option.some.inj ho
      exact hI.newQ (by kernel_rfl) hls (Nat.le_refl _) (newsQ_spec (l := [0, 1]) (by kernel_rfl) ⟨⟨_, _, rfl⟩, ⟨_, _, rfl⟩, trivial⟩) rfl rfl rfl 23 _ (fun z => z = numsA .u8 zeroKL) (run_allocQ rfl zeroK_run wn) rfl rfl hK'
    · exact hi.elim
  · intro an w1 hI
    obtain ⟨vr0_0, hvr0_0, br0_0, zr0_0, rfl, hnr0_0, hbr0_0, hzr0_0⟩ := hI.haveQ 0 _ 1 (.blk ptrTo 23 (fun z => z = numsA .u8 l)) rfl rfl rfl rfl
    rw [hzr0_0] at hbr0_0
    clear hzr0_0
    obtain ⟨vr0_1, hvr0_1, br0_1, zr0_1, rfl, hnr0_1, hbr0_1, hzr0_1⟩ := hI.haveQ 1 _ 2 (.blk ptrTo 23 (fun z => z = numsA .u8 zeroKL)) rfl rfl rfl rfl
    rw [hzr0_1] at hbr0_1
    clear hzr0_1
    have hupd := hI.upd
    have hner0_0_r0_1 := Lib.hid (show br0_0 ≠ br0_1 from fun e => hI.apart 0 1 _ _ 1 2 (by omega) rfl rfl rfl rfl rfl rfl rfl rfl (by rw [hvr0_0, hvr0_1, e]))
    have ha := hI.act [(1, ptrTo br0_0), (2, ptrTo br0_1)] (by simp [hvr0_0, hvr0_1]) (by kernel_rfl)
    clear hI hvr0_0 hvr0_1
    subst ha
    simp only [List.foldl_cons, List.foldl_nil, List.setIfInBounds_toArray, List.set_cons_zero, List.set_cons_succ]
    have hger0_0 := Lib.hid (Nat.le_trans HU.out.size hnr0_0)
    have hger0_1 := Lib.hid (Nat.le_trans HU.out.size hnr0_1)
    have Bxr0y0 := Lib.hid hbr0_0
    have Bxr0y1 := Lib.hid hbr0_1
    have HU0 := Lib.hid (HU.out.trans hupd)
    clear hupd
    refine wpOps_nil ?_
    refine hK0 _ _ ?_
    clear hK0
    refine wp_seq_k fun K1 hK1 => ?_
    refine wp_region_qS 3 #[true, true, true, false] [3] ([.val (.agg (numsA .u8 l)), .val (.agg (numsA .u8 keyY0)), .val (.agg (numsA .u8 (keyOf (ladV (clampL l) (ofKey keyY0))))), .val undef] : List SQ) (by kernel_rfl) (by kernel_rfl) (by kernel_rfl) ?_ ?_
    · intro i o listed an wn ho hls hst hun hdep hI hpre K' hK'
      have hi : i = 0 ∨ i = 1 ∨ i = 2 ∨ False := slot_cases (l := [0, 1, 2]) rfl ho hst
      rcases hi with rfl | rfl | rfl | hi
      · obtain rfl := Option.some.inj ho
        have hvp : an.eval (.tmp 1) = ptrTo br0_0 := hI.oldQ (by kernel_rfl) rfl
        exact hI.pureQ (by kernel_rfl) hls rfl rfl rfl _ (run_loadQ rfl hvp wn (hI.upd.blk (show Blk w1 br0_0 23 (numsA .u8 l) from Bxr0y0.out) (fun h => h)) Tryd.underlying23 rfl sizeKey (by rw [numsA_size, hl]; omega)) (.val (.agg (numsA .u8 l))) rfl (congrArg Value.agg (extract_all _ 32 (by rw [numsA_size]; exact hl))) rfl hK'
      · obtain rfl := Option.some.inj ho
        exact hI.pureQ (by kernel_rfl) hls rfl rfl rfl (.agg (numsA .u8 keyY0)) (keyY0_run rfl wn) (.val (.agg (numsA .u8 keyY0))) rfl rfl rfl hK'
      · obtain rfl := Option.some.inj ho
        obtain ⟨vp, hvp, hsp⟩ := hI.haveQ 0 _ 3 (.val (.agg (numsA .u8 l))) rfl rfl rfl (hdep ⟨0, .data⟩ (by simp) rfl)
        obtain rfl := hsp
        obtain ⟨vq, hvq, hsq⟩ := hI.haveQ 1 _ 4 (.val (.agg (numsA .u8 keyY0))) rfl rfl rfl (hdep ⟨1, .data⟩ (by simp) rfl)
        obtain rfl := hsq
        exact hI.callQ (by kernel_rfl) hls rfl rfl rfl 18 #[.tmp 3, .tmp 4] _ rfl #[.agg (numsA .u8 l), .agg (numsA .u8 keyY0)] (by simp [eval_of hvp, eval_of hvq]) (run_enter Tryd.func18 (by kernel_rfl) (by kernel_rfl)) (.val (.agg (numsA .u8 (keyOf (ladV (clampL l) (ofKey keyY0)))))) rfl rfl ((rmultiplyL _ hl hd keyY0_length keyY0_digs).mono fun _ _ h => ret_val h) hK'
      · exact hi.elim
    · intro an w2 hI
      obtain ⟨vr1_0, hvr1_0, hsr1_0⟩ := hI.haveQ 0 _ 3 (.val (.agg (numsA .u8 l))) rfl rfl rfl rfl
      obtain rfl := hsr1_0
      obtain ⟨vr1_1, hvr1_1, hsr1_1⟩ := hI.haveQ 1 _ 4 (.val (.agg (numsA .u8 keyY0))) rfl rfl rfl rfl
      obtain rfl := hsr1_1
      obtain ⟨vr1_2, hvr1_2, hsr1_2⟩ := hI.haveQ 2 _ 5 (.val (.agg (numsA .u8 (keyOf (ladV (clampL l) (ofKey keyY0)))))) rfl rfl rfl rfl
      obtain rfl := hsr1_2
      have hupd := hI.upd
      have ha := hI.act [(3, .agg (numsA .u8 l)), (4, .agg (numsA .u8 keyY0)), (5, .agg (numsA .u8 (keyOf (ladV (clampL l) (ofKey keyY0)))))] (by simp [hvr1_0, hvr1_1, hvr1_2]) (by kernel_rfl)
      clear hI hvr1_0 hvr1_1 hvr1_2
      subst ha
      simp only [List.foldl_cons, List.foldl_nil, List.setIfInBounds_toArray, List.set_cons_zero, List.set_cons_succ]
      have Bxr0y0_1 := Lib.hid (hupd.blk (show Blk w1 br0_0 23 (numsA .u8 l) from Bxr0y0.out) (fun h => h))
      have Bxr0y1_1 := Lib.hid (hupd.blk (show Blk w1 br0_1 23 (numsA .u8 zeroKL) from Bxr0y1.out) (fun h => h))
      have HU1 := Lib.hid (HU0.out.trans hupd)
      clear hupd
      refine wpOps_storeQ 3 rfl rfl rfl 23 (.tmp 2) (.tmp 5) rfl br0_1 0 32 rfl (numsA .u8 (keyOf (ladV (clampL l) (ofKey keyY0)))) rfl 23 (numsA .u8 zeroKL) Bxr0y1_1.out sizeKey (by rw [numsA_size]; exact keyOf_length _) (by rw [(show (numsA _ _).size = 32 by rw [numsA_size]; exact zeroKL_length)]; exact Nat.le_of_ble_eq_true rfl) (numsA_one _ _) ?_
      intro ws1_0 hs1_0 hus1_0
      rw [splice_all _ _ 32 (show (numsA _ _).size = 32 by rw [numsA_size]; exact zeroKL_length) (by rw [numsA_size]; exact keyOf_length _)] at hs1_0
      have Bxr0y0_s1_0 := Lib.hid (hus1_0.blk Bxr0y0_1.out (fun e => hner0_0_r0_1.out e))
      have Bxr0y1_s1_0 := Lib.hid hs1_0
      have HU1_0 := Lib.hid (HU1.out.step hus1_0 (fun i hi h => absurd hi (Nat.not_lt.2 (h.symm ▸ hger0_1.out))))
      clear hs1_0 hus1_0
      refine wpOps_nil ?_
      refine hK1 _ _ ?_
      clear hK1
      refine wp_ret ?_
      try dsimp only [Exit.then]
      try dsimp only [Exit.inBlock]
      exact bodyPost_ret (v := .agg (numsA .u8 (keyOf (ladV (clampL l) (ofKey keyY0))))) (results_cell_row (fn := Tryd.f22) (p := 2) (ty := 23) rfl _ _ br0_1 23 _ (0, 0) _ rfl Bxr0y1_s1_0.out Tryd.underlying23 rfl (by rw [numsA_size, keyOf_length _]; exact sizeKey)) rfl ⟨rfl, HU1_0.out⟩
set_option maxHeartbeats 4000000 in
theorem ragreetrue {l m : List Int} (w : World) (hl : l.length = 32) (hd : Digs 256 l) (hm : m.length = 32) (hn : Digs 256 m) (hk0 :  keyOf (ladV (clampL l) (ofKey m)) = zeroKL) :
    Calls Tryd.prog 20 #[.agg (numsA .u8 l), .agg (numsA .u8 m)] w fun e w' => e = .returned (.tuple #[.agg (numsA .u8 (keyOf (ladV (clampL l) (ofKey m)))), .int .i64 (agE (ladV (clampL l) (ofKey m)))]) ∧ Upd (fun _ => False) w w' := by
  have HU := Lib.hid (Upd.refl (fun _ => False) w)
  have hk : keyOf (ladV (clampL l) (ofKey m)) = zeroKL := hk0
  have hz : agE (ladV (clampL l) (ofKey m)) = 50 := if_pos hk
  have hf : decide (keyOf (ladV (clampL l) (ofKey m)) = zeroKL) = true := decide_eq_true hk
  go_enter Tryd.func20, Tryd.ntmps20
  refine wp_seq_k fun K0 hK0 => ?_
  refine wp_region_qS 4 #[true, true, true, true] [] ([.blk ptrTo 23 (fun z => z = numsA .u8 l), .blk ptrTo 23 (fun z => z = numsA .u8 m), .blk ptrTo 23 (fun z => z = numsA .u8 zeroKL), .val (.int .i64 0)] : List SQ) (by kernel_rfl) (by kernel_rfl) (by kernel_rfl) ?_ ?_
  · intro i o listed an wn ho hls hst hun hdep hI hpre K' hK'
    have hi : i = 0 ∨ i = 1 ∨ i = 2 ∨ i = 3 ∨ False := slot_cases (l := [0, 1, 2, 3]) rfl ho hst
    rcases hi with rfl | rfl | rfl | rfl | hi
    · obtain rfl := Option.some.inj ho
      have hvp : an.eval (.tmp 0) = .agg (numsA .u8 l) := hI.oldQ (by kernel_rfl) rfl
      exact hI.newQ (by kernel_rfl) hls (Nat.le_refl _) (newsQ_spec (l := [0, 1, 2]) (by kernel_rfl) ⟨⟨_, _, rfl⟩, ⟨_, _, rfl⟩, ⟨_, _, rfl⟩, trivial⟩) rfl rfl rfl 23 _ (fun z => z = numsA .u8 l) (run_boxQ rfl hvp wn) rfl rfl hK'
    · obtain rfl := Option.some.inj ho
      have hvp : an.eval (.tmp 1) = .agg (numsA .u8 m) := hI.oldQ (by kernel_rfl) rfl
      exact hI.newQ (by kernel_rfl) hls (Nat.le_refl _) (newsQ_spec (l := [0, 1, 2]) (by kernel_rfl) ⟨⟨_, _, rfl⟩, ⟨_, _, rfl⟩, ⟨_, _, rfl⟩, trivial⟩) rfl rfl rfl 23 _ (fun z => z = numsA .u8 m) (run_boxQ rfl hvp wn) rfl rfl hK'
    · obtain rfl := Option.some.inj ho
      exact hI.newQ (by kernel_rfl) hls (Nat.le_refl _) (newsQ_spec (l := [0, 1, 2]) (by kernel_rfl) ⟨⟨_, _, rfl⟩, ⟨_, _, rfl⟩, ⟨_, _, rfl⟩, trivial⟩) rfl rfl rfl 23 _ (fun z => z = numsA .u8 zeroKL) (run_allocQ rfl zeroK_run wn) rfl rfl hK'
    · obtain rfl := Option.some.inj ho
      exact hI.pureQ (by kernel_rfl) hls rfl rfl rfl (.int .i64 0) (run_moveQ (.inr rfl) (show an.eval (.const (.int .i64 0)) = .int .i64 0 from rfl) wn) (.val (.int .i64 0)) rfl rfl rfl hK'
    · exact hi.elim
  · intro an w1 hI
    obtain ⟨vr0_0, hvr0_0, br0_0, zr0_0, rfl, hnr0_0, hbr0_0, hzr0_0⟩ := hI.haveQ 0 _ 2 (.blk ptrTo 23 (fun z => z = numsA .u8 l)) rfl rfl rfl rfl
    rw [hzr0_0] at hbr0_0
    clear hzr0_0
    obtain ⟨vr0_1, hvr0_1, br0_1, zr0_1, rfl, hnr0_1, hbr0_1, hzr0_1⟩ := hI.haveQ 1 _ 3 (.blk ptrTo 23 (fun z => z = numsA .u8 m)) rfl rfl rfl rfl
    rw [hzr0_1] at hbr0_1
    clear hzr0_1
    obtain ⟨vr0_2, hvr0_2, br0_2, zr0_2, rfl, hnr0_2, hbr0_2, hzr0_2⟩ := hI.haveQ 2 _ 4 (.blk ptrTo 23 (fun z => z = numsA .u8 zeroKL)) rfl rfl rfl rfl
    rw [hzr0_2] at hbr0_2
    clear hzr0_2
    obtain ⟨vr0_3, hvr0_3, hsr0_3⟩ := hI.haveQ 3 _ 5 (.val (.int .i64 0)) rfl rfl rfl rfl
    obtain rfl := hsr0_3
    have hupd := hI.upd
    have hner0_0_r0_1 := Lib.hid (show br0_0 ≠ br0_1 from fun e => hI.apart 0 1 _ _ 2 3 (by omega) rfl rfl rfl rfl rfl rfl rfl rfl (by rw [hvr0_0, hvr0_1, e]))
    have hner0_0_r0_2 := Lib.hid (show br0_0 ≠ br0_2 from fun e => hI.apart 0 2 _ _ 2 4 (by omega) rfl rfl rfl rfl rfl rfl rfl rfl (by rw [hvr0_0, hvr0_2, e]))
    have hner0_1_r0_2 := Lib.hid (show br0_1 ≠ br0_2 from fun e => hI.apart 1 2 _ _ 3 4 (by omega) rfl rfl rfl rfl rfl rfl rfl rfl (by rw [hvr0_1, hvr0_2, e]))
    have ha := hI.act [(2, ptrTo br0_0), (3, ptrTo br0_1), (4, ptrTo br0_2), (5, .int .i64 0)] (by simp [hvr0_0, hvr0_1, hvr0_2, hvr0_3]) (by kernel_rfl)
    clear hI hvr0_0 hvr0_1 hvr0_2 hvr0_3
    subst ha
    simp only [List.foldl_cons, List.foldl_nil, List.setIfInBounds_toArray, List.set_cons_zero, List.set_cons_succ]
    have hger0_0 := Lib.hid (Nat.le_trans HU.out.size hnr0_0)
    have hger0_1 := Lib.hid (Nat.le_trans HU.out.size hnr0_1)
    have hger0_2 := Lib.hid (Nat.le_trans HU.out.size hnr0_2)
    have Bxr0y0 := Lib.hid hbr0_0
    have Bxr0y1 := Lib.hid hbr0_1
    have Bxr0y2 := Lib.hid hbr0_2
    have HU0 := Lib.hid (HU.out.trans hupd)
    clear hupd
    refine wpOps_nil ?_
    refine hK0 _ _ ?_
    clear hK0
    refine wp_seq_k fun K1 hK1 => ?_
    refine wp_region_qS 4 #[true, true, true, true, false] [4] ([.val (.agg (numsA .u8 l)), .val (.agg (numsA .u8 m)), .val (.agg (numsA .u8 (keyOf (ladV (clampL l) (ofKey m))))), .blk ptrTo 23 (fun z => z = numsA .u8 zeroKL), .val undef] : List SQ) (by kernel_rfl) (by kernel_rfl) (by kernel_rfl) ?_ ?_
    · intro i o listed an wn ho hls hst hun hdep hI hpre K' hK'
      have hi : i = 0 ∨ i = 1 ∨ i = 2 ∨ i = 3 ∨ False := slot_cases (l := [0, 1, 2, 3]) rfl ho hst
      rcases hi with rfl | rfl | rfl | rfl | hi
      · obtain rfl := Option.some.inj ho
        have hvp : an.eval (.tmp 2) = ptrTo br0_0 := hI.oldQ (by kernel_rfl) rfl
        exact hI.pureQ (by kernel_rfl) hls rfl rfl rfl _ (run_loadQ rfl hvp wn (hI.upd.blk (show Blk w1 br0_0 23 (numsA .u8 l) from Bxr0y0.out) (fun h => h)) Tryd.underlying23 rfl sizeKey (by rw [numsA_size, hl]; omega)) (.val (.agg (numsA .u8 l))) rfl (congrArg Value.agg (extract_all _ 32 (by rw [numsA_size]; exact hl))) rfl hK'
      · obtain rfl := Option.some.inj ho
        have hvp : an.eval (.tmp 3) = ptrTo br0_1 := hI.oldQ (by kernel_rfl) rfl
        exact hI.pureQ (by kernel_rfl) hls rfl rfl rfl _ (run_loadQ rfl hvp wn (hI.upd.blk (show Blk w1 br0_1 23 (numsA .u8 m) from Bxr0y1.out) (fun h => h)) Tryd.underlying23 rfl sizeKey (by rw [numsA_size, hm]; omega)) (.val (.agg (numsA .u8 m))) rfl (congrArg Value.agg (extract_all _ 32 (by rw [numsA_size]; exact hm))) rfl hK'
      · obtain rfl := Option.some.inj ho
        obtain ⟨vp, hvp, hsp⟩ := hI.haveQ 0 _ 7 (.val (.agg (numsA .u8 l))) rfl rfl rfl (hdep ⟨0, .data⟩ (by simp) rfl)
        obtain rfl := hsp
        obtain ⟨vq, hvq, hsq⟩ := hI.haveQ 1 _ 8 (.val (.agg (numsA .u8 m))) rfl rfl rfl (hdep ⟨1, .data⟩ (by simp) rfl)
        obtain rfl := hsq
        exact hI.callQ (by kernel_rfl) hls rfl rfl rfl 18 #[.tmp 7, .tmp 8] _ rfl #[.agg (numsA .u8 l), .agg (numsA .u8 m)] (by simp [eval_of hvp, eval_of hvq]) (run_enter Tryd.func18 (by kernel_rfl) (by kernel_rfl)) (.val (.agg (numsA .u8 (keyOf (ladV (clampL l) (ofKey m)))))) rfl rfl ((rmultiplyL _ hl hd hm hn).mono fun _ _ h => ret_val h) hK'
      · obtain rfl := Option.some.inj ho
        exact hI.newQ (by kernel_rfl) hls (Nat.le_refl _) (newsQ_spec (l := [3]) (by kernel_rfl) ⟨⟨_, _, rfl⟩, trivial⟩) rfl rfl rfl 23 _ (fun z => z = numsA .u8 zeroKL) (run_allocQ rfl zeroK_run wn) rfl rfl hK'
      · exact hi.elim
    · intro an w2 hI
      obtain ⟨vr1_0, hvr1_0, hsr1_0⟩ := hI.haveQ 0 _ 7 (.val (.agg (numsA .u8 l))) rfl rfl rfl rfl
      obtain rfl := hsr1_0
      obtain ⟨vr1_1, hvr1_1, hsr1_1⟩ := hI.haveQ 1 _ 8 (.val (.agg (numsA .u8 m))) rfl rfl rfl rfl
      obtain rfl := hsr1_1
      obtain ⟨vr1_2, hvr1_2, hsr1_2⟩ := hI.haveQ 2 _ 9 (.val (.agg (numsA .u8 (keyOf (ladV (clampL l) (ofKey m)))))) rfl rfl rfl rfl
      obtain rfl := hsr1_2
      obtain ⟨vr1_3, hvr1_3, br1_3, zr1_3, rfl, hnr1_3, hbr1_3, hzr1_3⟩ := hI.haveQ 3 _ 6 (.blk ptrTo 23 (fun z => z = numsA .u8 zeroKL)) rfl rfl rfl rfl
      rw [hzr1_3] at hbr1_3
      clear hzr1_3
      have hupd := hI.upd
      have ha := hI.act [(7, .agg (numsA .u8 l)), (8, .agg (numsA .u8 m)), (9, .agg (numsA .u8 (keyOf (ladV (clampL l) (ofKey m))))), (6, ptrTo br1_3)] (by simp [hvr1_0, hvr1_1, hvr1_2, hvr1_3]) (by kernel_rfl)
      clear hI hvr1_0 hvr1_1 hvr1_2 hvr1_3
      subst ha
      simp only [List.foldl_cons, List.foldl_nil, List.setIfInBounds_toArray, List.set_cons_zero, List.set_cons_succ]
      have hner1_3_Bxr0y0 := Lib.hid (show br1_3 ≠ br0_0 from Nat.ne_of_gt (Nat.lt_of_lt_of_le Bxr0y0.out.lt hnr1_3))
      have hner1_3_Bxr0y1 := Lib.hid (show br1_3 ≠ br0_1 from Nat.ne_of_gt (Nat.lt_of_lt_of_le Bxr0y1.out.lt hnr1_3))
      have hner1_3_Bxr0y2 := Lib.hid (show br1_3 ≠ br0_2 from Nat.ne_of_gt (Nat.lt_of_lt_of_le Bxr0y2.out.lt hnr1_3))
      have hger1_3 := Lib.hid (Nat.le_trans HU0.out.size hnr1_3)
      have Bxr0y0_1 := Lib.hid (hupd.blk (show Blk w1 br0_0 23 (numsA .u8 l) from Bxr0y0.out) (fun h => h))
      have Bxr0y1_1 := Lib.hid (hupd.blk (show Blk w1 br0_1 23 (numsA .u8 m) from Bxr0y1.out) (fun h => h))
      have Bxr0y2_1 := Lib.hid (hupd.blk (show Blk w1 br0_2 23 (numsA .u8 zeroKL) from Bxr0y2.out) (fun h => h))
      have Bxr1y3 := Lib.hid hbr1_3
      have HU1 := Lib.hid (HU0.out.trans hupd)
      clear hupd
      refine wpOps_storeQ 4 rfl rfl rfl 23 (.tmp 6) (.tmp 9) rfl br1_3 0 32 rfl (numsA .u8 (keyOf (ladV (clampL l) (ofKey m)))) rfl 23 (numsA .u8 zeroKL) Bxr1y3.out sizeKey (by rw [numsA_size]; exact keyOf_length _) (by rw [(show (numsA _ _).size = 32 by rw [numsA_size]; exact zeroKL_length)]; exact Nat.le_of_ble_eq_true rfl) (numsA_one _ _) ?_
      intro ws1_0 hs1_0 hus1_0
      rw [splice_all _ _ 32 (show (numsA _ _).size = 32 by rw [numsA_size]; exact zeroKL_length) (by rw [numsA_size]; exact keyOf_length _)] at hs1_0
      have Bxr0y0_s1_0 := Lib.hid (hus1_0.blk Bxr0y0_1.out (fun e => hner1_3_Bxr0y0.out e.symm))
      have Bxr0y1_s1_0 := Lib.hid (hus1_0.blk Bxr0y1_1.out (fun e => hner1_3_Bxr0y1.out e.symm))
      have Bxr0y2_s1_0 := Lib.hid (hus1_0.blk Bxr0y2_1.out (fun e => hner1_3_Bxr0y2.out e.symm))
      have Bxr1y3_s1_0 := Lib.hid hs1_0
      have HU1_0 := Lib.hid (HU1.out.step hus1_0 (fun i hi h => absurd hi (Nat.not_lt.2 (h.symm ▸ hger1_3.out))))
      clear hs1_0 hus1_0
      refine wpOps_nil ?_
      refine hK1 _ _ ?_
      clear hK1
      refine wp_seq_k fun K2 hK2 => ?_
      refine wp_seq_k fun K3 hK3 => ?_
      refine wp_region_qS 3 #[true, true, true] [] ([.val (.agg (numsA .u8 (keyOf (ladV (clampL l) (ofKey m))))), .val (.agg (numsA .u8 zeroKL)), .val (.bool true)] : List SQ) (by kernel_rfl) (by kernel_rfl) (by kernel_rfl) ?_ ?_
      · intro i o listed an wn ho hls hst hun hdep hI hpre K' hK'
        have hi : i = 0 ∨ i = 1 ∨ i = 2 ∨ False := slot_cases (l := [0, 1, 2]) rfl ho hst
        rcases hi with rfl | rfl | rfl | hi
        · obtain rfl := Option.some.inj ho
          have hvp : an.eval (.tmp 6) = ptrTo br1_3 := hI.oldQ (by kernel_rfl) rfl
          exact hI.pureQ (by kernel_rfl) hls rfl rfl rfl _ (run_loadQ rfl hvp wn (hI.upd.blk (show Blk ws1_0 br1_3 23 (numsA .u8 (keyOf (ladV (clampL l) (ofKey m)))) from Bxr1y3_s1_0.out) (fun h => h)) Tryd.underlying23 rfl sizeKey (by rw [numsA_size, keyOf_length _]; omega)) (.val (.agg (numsA .u8 (keyOf (ladV (clampL l) (ofKey m)))))) rfl (congrArg Value.agg (extract_all _ 32 (by rw [numsA_size]; exact keyOf_length _))) rfl hK'
        · obtain rfl := Option.some.inj ho
          exact hI.pureQ (by kernel_rfl) hls rfl rfl rfl (.agg (numsA .u8 zeroKL)) (zeroKL_bld rfl wn) (.val (.agg (numsA .u8 zeroKL))) rfl rfl rfl hK'
        · obtain rfl := Option.some.inj ho
          obtain ⟨vp, hvp, hsp⟩ := hI.haveQ 0 _ 10 (.val (.agg (numsA .u8 (keyOf (ladV (clampL l) (ofKey m)))))) rfl rfl rfl (hdep ⟨0, .data⟩ (by simp) rfl)
          obtain rfl := hsp
          obtain ⟨vq, hvq, hsq⟩ := hI.haveQ 1 _ 11 (.val (.agg (numsA .u8 zeroKL))) rfl rfl rfl (hdep ⟨1, .data⟩ (by simp) rfl)
          obtain rfl := hsq
          exact hI.pureQ (by kernel_rfl) hls rfl rfl rfl (.bool true) (run_eqlK (b := true) rfl (eval_of hvp) (eval_of hvq) (keyOf_length _) zeroKL_length hf wn) (.val (.bool true)) rfl rfl rfl hK'
        · exact hi.elim
      · intro an w3 hI
        obtain ⟨vr2_0, hvr2_0, hsr2_0⟩ := hI.haveQ 0 _ 10 (.val (.agg (numsA .u8 (keyOf (ladV (clampL l) (ofKey m)))))) rfl rfl rfl rfl
        obtain rfl := hsr2_0
        obtain ⟨vr2_1, hvr2_1, hsr2_1⟩ := hI.haveQ 1 _ 11 (.val (.agg (numsA .u8 zeroKL))) rfl rfl rfl rfl
        obtain rfl := hsr2_1
        obtain ⟨vr2_2, hvr2_2, hsr2_2⟩ := hI.haveQ 2 _ 12 (.val (.bool true)) rfl rfl rfl rfl
        obtain rfl := hsr2_2
        have hupd := hI.upd
        have ha := hI.act [(10, .agg (numsA .u8 (keyOf (ladV (clampL l) (ofKey m))))), (11, .agg (numsA .u8 zeroKL)), (12, .bool true)] (by simp [hvr2_0, hvr2_1, hvr2_2]) (by kernel_rfl)
        clear hI hvr2_0 hvr2_1 hvr2_2
        subst ha
        simp only [List.foldl_cons, List.foldl_nil, List.setIfInBounds_toArray, List.set_cons_zero, List.set_cons_succ]
        have Bxr0y0_2 := Lib.hid (hupd.blk (show Blk ws1_0 br0_0 23 (numsA .u8 l) from Bxr0y0_s1_0.out) (fun h => h))
        have Bxr0y1_2 := Lib.hid (hupd.blk (show Blk ws1_0 br0_1 23 (numsA .u8 m) from Bxr0y1_s1_0.out) (fun h => h))
        have Bxr0y2_2 := Lib.hid (hupd.blk (show Blk ws1_0 br0_2 23 (numsA .u8 zeroKL) from Bxr0y2_s1_0.out) (fun h => h))
        have Bxr1y3_2 := Lib.hid (hupd.blk (show Blk ws1_0 br1_3 23 (numsA .u8 (keyOf (ladV (clampL l) (ofKey m)))) from Bxr1y3_s1_0.out) (fun h => h))
        have HU2 := Lib.hid (HU1_0.out.trans hupd)
        clear hupd
        refine wpOps_nil ?_
        refine hK3 _ _ ?_
        clear hK3
        refine wp_cond_true rfl ?_
        refine wp_seq_k fun K4 hK4 => ?_
        refine wp_region_qS 1 #[true, false, false] [1, 2] ([.val (.agg (numsA .u8 (keyOf (ladV (clampL l) (ofKey m))))), .val undef, .val undef] : List SQ) (by kernel_rfl) (by kernel_rfl) (by kernel_rfl) ?_ ?_
        · intro i o listed an wn ho hls hst hun hdep hI hpre K' hK'
          have hi : i = 0 ∨ False := slot_cases (l := [0]) rfl ho hst
          rcases hi with rfl | hi
          · obtain rfl := Option.some.inj ho
            have hvp : an.eval (.tmp 6) = ptrTo br1_3 := hI.oldQ (by kernel_rfl) rfl
            exact hI.pureQ (by kernel_rfl) hls rfl rfl rfl _ (run_loadQ rfl hvp wn (hI.upd.blk (show Blk w3 br1_3 23 (numsA .u8 (keyOf (ladV (clampL l) (ofKey m)))) from Bxr1y3_2.out) (fun h => h)) Tryd.underlying23 rfl sizeKey (by rw [numsA_size, keyOf_length _]; omega)) (.val (.agg (numsA .u8 (keyOf (ladV (clampL l) (ofKey m)))))) rfl (congrArg Value.agg (extract_all _ 32 (by rw [numsA_size]; exact keyOf_length _))) rfl hK'
          · exact hi.elim
        · intro an w4 hI
          obtain ⟨vr3_0, hvr3_0, hsr3_0⟩ := hI.haveQ 0 _ 13 (.val (.agg (numsA .u8 (keyOf (ladV (clampL l) (ofKey m)))))) rfl rfl rfl rfl
          obtain rfl := hsr3_0
          have hupd := hI.upd
          have ha := hI.act [(13, .agg (numsA .u8 (keyOf (ladV (clampL l) (ofKey m)))))] (by simp [hvr3_0]) (by kernel_rfl)
          clear hI hvr3_0
          subst ha
          simp only [List.foldl_cons, List.foldl_nil, List.setIfInBounds_toArray, List.set_cons_zero, List.set_cons_succ]
          have Bxr0y0_3 := Lib.hid (hupd.blk (show Blk w3 br0_0 23 (numsA .u8 l) from Bxr0y0_2.out) (fun h => h))
          have Bxr0y1_3 := Lib.hid (hupd.blk (show Blk w3 br0_1 23 (numsA .u8 m) from Bxr0y1_2.out) (fun h => h))
          have Bxr0y2_3 := Lib.hid (hupd.blk (show Blk w3 br0_2 23 (numsA .u8 zeroKL) from Bxr0y2_2.out) (fun h => h))
          have Bxr1y3_3 := Lib.hid (hupd.blk (show Blk w3 br1_3 23 (numsA .u8 (keyOf (ladV (clampL l) (ofKey m)))) from Bxr1y3_2.out) (fun h => h))
          have HU3 := Lib.hid (HU2.out.trans hupd)
          clear hupd
          refine wpOps_storeQ 1 rfl rfl rfl 23 (.tmp 4) (.tmp 13) rfl br0_2 0 32 rfl (numsA .u8 (keyOf (ladV (clampL l) (ofKey m)))) rfl 23 (numsA .u8 zeroKL) Bxr0y2_3.out sizeKey (by rw [numsA_size]; exact keyOf_length _) (by rw [(show (numsA _ _).size = 32 by rw [numsA_size]; exact zeroKL_length)]; exact Nat.le_of_ble_eq_true rfl) (numsA_one _ _) ?_
          intro ws3_0 hs3_0 hus3_0
          rw [splice_all _ _ 32 (show (numsA _ _).size = 32 by rw [numsA_size]; exact zeroKL_length) (by rw [numsA_size]; exact keyOf_length _)] at hs3_0
          have Bxr0y0_s3_0 := Lib.hid (hus3_0.blk Bxr0y0_3.out (fun e => hner0_0_r0_2.out e))
          have Bxr0y1_s3_0 := Lib.hid (hus3_0.blk Bxr0y1_3.out (fun e => hner0_1_r0_2.out e))
          have Bxr1y3_s3_0 := Lib.hid (hus3_0.blk Bxr1y3_3.out (fun e => hner1_3_Bxr0y2.out e))
          have Bxr0y2_s3_0 := Lib.hid hs3_0
          have HU3_0 := Lib.hid (HU3.out.step hus3_0 (fun i hi h => absurd hi (Nat.not_lt.2 (h.symm ▸ hger0_2.out))))
          clear hs3_0 hus3_0
          refine wpOps_pureQ 2 rfl rfl 5 rfl (.int .i64 50) (run_moveQ (x := .const (.int .i64 50)) (v := .int .i64 50) (.inr rfl) rfl _) ?_
          simp only [List.setIfInBounds_toArray, List.set_cons_zero, List.set_cons_succ]
          refine wpOps_nil ?_
          refine hK4 _ _ ?_
          clear hK4
          refine wp_ret ?_
          try dsimp only [Exit.then]
          try dsimp only [Exit.inBlock]
          exact bodyPost_ret (v := .tuple #[.agg (numsA .u8 (keyOf (ladV (clampL l) (ofKey m)))), .int .i64 50]) (results_cell_tmpQ (fn := Tryd.f20) (p := 4) (q := 5) (ty := 23) rfl _ _ br0_2 (numsA .u8 (keyOf (ladV (clampL l) (ofKey m)))) (.int .i64 50) rfl rfl Bxr0y2_s3_0.out Tryd.underlying23 rfl (by rw [numsA_size, keyOf_length _]; exact sizeKey)) rfl ⟨by rw [hz], HU3_0.out⟩
set_option maxHeartbeats 4000000 in
theorem ragreefalse {l m : List Int} (w : World) (hl : l.length = 32) (hd : Digs 256 l) (hm : m.length = 32) (hn : Digs 256 m) (hk0 : ¬ keyOf (ladV (clampL l) (ofKey m)) = zeroKL) :
    Calls Tryd.prog 20 #[.agg (numsA .u8 l), .agg (numsA .u8 m)] w fun e w' => e = .returned (.tuple #[.agg (numsA .u8 (keyOf (ladV (clampL l) (ofKey m)))), .int .i64 (agE (ladV (clampL l) (ofKey m)))]) ∧ Upd (fun _ => False) w w' := by
  have HU := Lib.hid (Upd.refl (fun _ => False) w)
  have hz : agE (ladV (clampL l) (ofKey m)) = 0 := if_neg hk0
  have hf : decide (keyOf (ladV (clampL l) (ofKey m)) = zeroKL) = false := decide_eq_false hk0
  go_enter Tryd.func20, Tryd.ntmps20
  refine wp_seq_k fun K0 hK0 => ?_
  refine wp_region_qS 4 #[true, true, true, true] [] ([.blk ptrTo 23 (fun z => z = numsA .u8 l), .blk ptrTo 23 (fun z => z = numsA .u8 m), .blk ptrTo 23 (fun z => z = numsA .u8 zeroKL), .val (.int .i64 0)] : List SQ) (by kernel_rfl) (by kernel_rfl) (by kernel_rfl) ?_ ?_
  · intro i o listed an wn ho hls hst hun hdep hI hpre K' hK'
    have hi : i = 0 ∨ i = 1 ∨ i = 2 ∨ i = 3 ∨ False := slot_cases (l := [0, 1, 2, 3]) rfl ho hst
    rcases hi with rfl | rfl | rfl | rfl | hi
    · obtain rfl := Option.some.inj ho
      have hvp : an.eval (.tmp 0) = .agg (numsA .u8 l) := hI.oldQ (by kernel_rfl) rfl
      exact hI.newQ (by kernel_rfl) hls (Nat.le_refl _) (newsQ_spec (l := [0, 1, 2]) (by kernel_rfl) ⟨⟨_, _, rfl⟩, ⟨_, _, rfl⟩, ⟨_, _, rfl⟩, trivial⟩) rfl rfl rfl 23 _ (fun z => z = numsA .u8 l) (run_boxQ rfl hvp wn) rfl rfl hK'
    · obtain rfl := Option.some.inj ho
      have hvp : an.eval (.tmp 1) = .agg (numsA .u8 m) := hI.oldQ (by kernel_rfl) rfl
      exact hI.newQ (by kernel_rfl) hls (Nat.le_refl _) (newsQ_spec (l := [0, 1, 2]) (by kernel_rfl) ⟨⟨_, _, rfl⟩, ⟨_, _, rfl⟩, ⟨_, _, rfl⟩, trivial⟩) rfl rfl rfl 23 _ (fun z => z = numsA .u8 m) (run_boxQ rfl hvp wn) rfl rfl hK'
    · obtain rfl := Option.some.inj ho
      exact hI.newQ (by kernel_rfl) hls (Nat.le_refl _) (newsQ_spec (l := [0, 1, 2]) (by kernel_rfl) ⟨⟨_, _, rfl⟩, ⟨_, _, rfl⟩, ⟨_, _, rfl⟩, trivial⟩) rfl rfl rfl 23 _ (fun z => z = numsA .u8 zeroKL) (run_allocQ rfl zeroK_run wn) rfl rfl hK'
    · obtain rfl := Option.some.inj ho
      exact hI.pureQ (by kernel_rfl) hls rfl rfl rfl (.int .i64 0) (run_moveQ (.inr rfl) (show an.eval (.const (.int .i64 0)) = .int .i64 0 from rfl) wn) (.val (.int .i64 0)) rfl rfl rfl hK'
    · exact hi.elim
  · intro an w1 hI
    obtain ⟨vr0_0, hvr0_0, br0_0, zr0_0, rfl, hnr0_0, hbr0_0, hzr0_0⟩ := hI.haveQ 0 _ 2 (.blk ptrTo 23 (fun z => z = numsA .u8 l)) rfl rfl rfl rfl
    rw [hzr0_0] at hbr0_0
    clear hzr0_0
    obtain ⟨vr0_1, hvr0_1, br0_1, zr0_1, rfl, hnr0_1, hbr0_1, hzr0_1⟩ := hI.haveQ 1 _ 3 (.blk ptrTo 23 (fun z => z = numsA .u8 m)) rfl rfl rfl rfl
    rw [hzr0_1] at hbr0_1
    clear hzr0_1
    obtain ⟨vr0_2, hvr0_2, br0_2, zr0_2, rfl, hnr0_2, hbr0_2, hzr0_2⟩ := hI.haveQ 2 _ 4 (.blk ptrTo 23 (fun z => z = numsA .u8 zeroKL)) rfl rfl rfl rfl
    rw [hzr0_2] at hbr0_2
    clear hzr0_2
    obtain ⟨vr0_3, hvr0_3, hsr0_3⟩ := hI.haveQ 3 _ 5 (.val (.int .i64 0)) rfl rfl rfl rfl
    obtain rfl := hsr0_3
    have hupd := hI.upd
    have hner0_0_r0_1 := Lib.hid (show br0_0 ≠ br0_1 from fun e => hI.apart 0 1 _ _ 2 3 (by omega) rfl rfl rfl rfl rfl rfl rfl rfl (by rw [hvr0_0, hvr0_1, e]))
    have hner0_0_r0_2 := Lib.hid (show br0_0 ≠ br0_2 from fun e => hI.apart 0 2 _ _ 2 4 (by omega) rfl rfl rfl rfl rfl rfl rfl rfl (by rw [hvr0_0, hvr0_2, e]))
    have hner0_1_r0_2 := Lib.hid (show br0_1 ≠ br0_2 from fun e => hI.apart 1 2 _ _ 3 4 (by omega) rfl rfl rfl rfl rfl rfl rfl rfl (by rw [hvr0_1, hvr0_2, e]))
    have ha := hI.act [(2, ptrTo br0_0), (3, ptrTo br0_1), (4, ptrTo br0_2), (5, .int .i64 0)] (by simp [hvr0_0, hvr0_1, hvr0_2, hvr0_3]) (by kernel_rfl)
    clear hI hvr0_0 hvr0_1 hvr0_2 hvr0_3
    subst ha
    simp only [List.foldl_cons, List.foldl_nil, List.setIfInBounds_toArray, List.set_cons_zero, List.set_cons_succ]
    have hger0_0 := Lib.hid (Nat.le_trans HU.out.size hnr0_0)
    have hger0_1 := Lib.hid (Nat.le_trans HU.out.size hnr0_1)
    have hger0_2 := Lib.hid (Nat.le_trans HU.out.size hnr0_2)
    have Bxr0y0 := Lib.hid hbr0_0
    have Bxr0y1 := Lib.hid hbr0_1
    have Bxr0y2 := Lib.hid hbr0_2
    have HU0 := Lib.hid (HU.out.trans hupd)
    clear hupd
    refine wpOps_nil ?_
    refine hK0 _ _ ?_
    clear hK0
    refine wp_seq_k fun K1 hK1 => ?_
    refine wp_region_qS 4 #[true, true, true, true, false] [4] ([.val (.agg (numsA .u8 l)), .val (.agg (numsA .u8 m)), .val (.agg (numsA .u8 (keyOf (ladV (clampL l) (ofKey m))))), .blk ptrTo 23 (fun z => z = numsA .u8 zeroKL), .val undef] : List SQ) (by kernel_rfl) (by kernel_rfl) (by kernel_rfl) ?_ ?_
    · intro i o listed an wn ho hls hst hun hdep hI hpre K' hK'
      have hi : i = 0 ∨ i = 1 ∨ i = 2 ∨ i = 3 ∨ False := slot_cases (l := [0, 1, 2, 3]) rfl ho hst
      rcases hi with rfl | rfl | rfl | rfl | hi
      · obtain rfl := Option.some.inj ho
        have hvp : an.eval (.tmp 2) = ptrTo br0_0 := hI.oldQ (by kernel_rfl) rfl
        exact hI.pureQ (by kernel_rfl) hls rfl rfl rfl _ (run_loadQ rfl hvp wn (hI.upd.blk (show Blk w1 br0_0 23 (numsA .u8 l) from Bxr0y0.out) (fun h => h)) Tryd.underlying23 rfl sizeKey (by rw [numsA_size, hl]; omega)) (.val (.agg (numsA .u8 l))) rfl (congrArg Value.agg (extract_all _ 32 (by rw [numsA_size]; exact hl))) rfl hK'
      · obtain rfl := Option.some.inj ho
        have hvp : an.eval (.tmp 3) = ptrTo br0_1 := hI.oldQ (by kernel_rfl) rfl
        exact hI.pureQ (by kernel_rfl) hls rfl rfl rfl _ (run_loadQ rfl hvp wn (hI.upd.blk (show Blk w1 br0_1 23 (numsA .u8 m) from Bxr0y1.out) (fun h => h)) Tryd.underlying23 rfl sizeKey (by rw [numsA_size, hm]; omega)) (.val (.agg (numsA .u8 m))) rfl (congrArg Value.agg (extract_all _ 32 (by rw [numsA_size]; exact hm))) rfl hK'
      · obtain rfl := Option.some.inj ho
        obtain ⟨vp, hvp, hsp⟩ := hI.haveQ 0 _ 7 (.val (.agg (numsA .u8 l))) rfl rfl rfl (hdep ⟨0, .data⟩ (by simp) rfl)
        obtain rfl := hsp
        obtain ⟨vq, hvq, hsq⟩ := hI.haveQ 1 _ 8 (.val (.agg (numsA .u8 m))) rfl rfl rfl (hdep ⟨1, .data⟩ (by simp) rfl)
        obtain rfl := hsq
        exact hI.callQ (by kernel_rfl) hls rfl rfl rfl 18 #[.tmp 7, .tmp 8] _ rfl #[.agg (numsA .u8 l), .agg (numsA .u8 m)] (by simp [eval_of hvp, eval_of hvq]) (run_enter Tryd.func18 (by kernel_rfl) (by kernel_rfl)) (.val (.agg (numsA .u8 (keyOf (ladV (clampL l) (ofKey m)))))) rfl rfl ((rmultiplyL _ hl hd hm hn).mono fun _ _ h => ret_val h) hK'
      · obtain rfl := Option.some.inj ho
        exact hI.newQ (by kernel_rfl) hls (Nat.le_refl _) (newsQ_spec (l := [3]) (by kernel_rfl) ⟨⟨_, _, rfl⟩, trivial⟩) rfl rfl rfl 23 _ (fun z => z = numsA .u8 zeroKL) (run_allocQ rfl zeroK_run wn) rfl rfl hK'
      · exact hi.elim
    · intro an w2 hI
      obtain ⟨vr1_0, hvr1_0, hsr1_0⟩ := hI.haveQ 0 _ 7 (.val (.agg (numsA .u8 l))) rfl rfl rfl rfl
      obtain rfl := hsr1_0
      obtain ⟨vr1_1, hvr1_1, hsr1_1⟩ := hI.haveQ 1 _ 8 (.val (.agg (numsA .u8 m))) rfl rfl rfl rfl
      obtain rfl := hsr1_1
      obtain ⟨vr1_2, hvr1_2, hsr1_2⟩ := hI.haveQ 2 _ 9 (.val (.agg (numsA .u8 (keyOf (ladV (clampL l) (ofKey m)))))) rfl rfl rfl rfl
      obtain rfl := hsr1_2
      obtain ⟨vr1_3, hvr1_3, br1_3, zr1_3, rfl, hnr1_3, hbr1_3, hzr1_3⟩ := hI.haveQ 3 _ 6 (.blk ptrTo 23 (fun z => z = numsA .u8 zeroKL)) rfl rfl rfl rfl
      rw [hzr1_3] at hbr1_3
      clear hzr1_3
      have hupd := hI.upd
      have ha := hI.act [(7, .agg (numsA .u8 l)), (8, .agg (numsA .u8 m)), (9, .agg (numsA .u8 (keyOf (ladV (clampL l) (ofKey m))))), (6, ptrTo br1_3)] (by simp [hvr1_0, hvr1_1, hvr1_2, hvr1_3]) (by kernel_rfl)
      clear hI hvr1_0 hvr1_1 hvr1_2 hvr1_3
      subst ha
      simp only [List.foldl_cons, List.foldl_nil, List.setIfInBounds_toArray, List.set_cons_zero, List.set_cons_succ]
      have hner1_3_Bxr0y0 := Lib.hid (show br1_3 ≠ br0_0 from Nat.ne_of_gt (Nat.lt_of_lt_of_le Bxr0y0.out.lt hnr1_3))
      have hner1_3_Bxr0y1 := Lib.hid (show br1_3 ≠ br0_1 from Nat.ne_of_gt (Nat.lt_of_lt_of_le Bxr0y1.out.lt hnr1_3))
      have hner1_3_Bxr0y2 := Lib.hid (show br1_3 ≠ br0_2 from Nat.ne_of_gt (Nat.lt_of_lt_of_le Bxr0y2.out.lt hnr1_3))
      have hger1_3 := Lib.hid (Nat.le_trans HU0.out.size hnr1_3)
      have Bxr0y0_1 := Lib.hid (hupd.blk (show Blk w1 br0_0 23 (numsA .u8 l) from Bxr0y0.out) (fun h => h))
      have Bxr0y1_1 := Lib.hid (hupd.blk (show Blk w1 br0_1 23 (numsA .u8 m) from Bxr0y1.out) (fun h => h))
      have Bxr0y2_1 := Lib.hid (hupd.blk (show Blk w1 br0_2 23 (numsA .u8 zeroKL) from Bxr0y2.out) (fun h => h))
      have Bxr1y3 := Lib.hid hbr1_3
      have HU1 := Lib.hid (HU0.out.trans hupd)
      clear hupd
      refine wpOps_storeQ 4 rfl rfl rfl 23 (.tmp 6) (.tmp 9) rfl br1_3 0 32 rfl (numsA .u8 (keyOf (ladV (clampL l) (ofKey m)))) rfl 23 (numsA .u8 zeroKL) Bxr1y3.out sizeKey (by rw [numsA_size]; exact keyOf_length _) (by rw [(show (numsA _ _).size = 32 by rw [numsA_size]; exact zeroKL_length)]; exact Nat.le_of_ble_eq_true rfl) (numsA_one _ _) ?_
      intro ws1_0 hs1_0 hus1_0
      rw [splice_all _ _ 32 (show (numsA _ _).size = 32 by rw [numsA_size]; exact zeroKL_length) (by rw [numsA_size]; exact keyOf_length _)] at hs1_0
      have Bxr0y0_s1_0 := Lib.hid (hus1_0.blk Bxr0y0_1.out (fun e => hner1_3_Bxr0y0.out e.symm))
      have Bxr0y1_s1_0 := Lib.hid (hus1_0.blk Bxr0y1_1.out (fun e => hner1_3_Bxr0y1.out e.symm))
      have Bxr0y2_s1_0 := Lib.hid (hus1_0.blk Bxr0y2_1.out (fun e => hner1_3_Bxr0y2.out e.symm))
      have Bxr1y3_s1_0 := Lib.hid hs1_0
      have HU1_0 := Lib.hid (HU1.out.step hus1_0 (fun i hi h => absurd hi (Nat.not_lt.2 (h.symm ▸ hger1_3.out))))
      clear hs1_0 hus1_0
      refine wpOps_nil ?_
      refine hK1 _ _ ?_
      clear hK1
      refine wp_seq_k fun K2 hK2 => ?_
      refine wp_seq_k fun K3 hK3 => ?_
      refine wp_region_qS 3 #[true, true, true] [] ([.val (.agg (numsA .u8 (keyOf (ladV (clampL l) (ofKey m))))), .val (.agg (numsA .u8 zeroKL)), .val (.bool false)] : List SQ) (by kernel_rfl) (by kernel_rfl) (by kernel_rfl) ?_ ?_
      · intro i o listed an wn ho hls hst hun hdep hI hpre K' hK'
        have hi : i = 0 ∨ i = 1 ∨ i = 2 ∨ False := slot_cases (l := [0, 1, 2]) rfl ho hst
        rcases hi with rfl | rfl | rfl | hi
        · obtain rfl := Option.some.inj ho
          have hvp : an.eval (.tmp 6) = ptrTo br1_3 := hI.oldQ (by kernel_rfl) rfl
          exact hI.pureQ (by kernel_rfl) hls rfl rfl rfl _ (run_loadQ rfl hvp wn (hI.upd.blk (show Blk ws1_0 br1_3 23 (numsA .u8 (keyOf (ladV (clampL l) (ofKey m)))) from Bxr1y3_s1_0.out) (fun h => h)) Tryd.underlying23 rfl sizeKey (by rw [numsA_size, keyOf_length _]; omega)) (.val (.agg (numsA .u8 (keyOf (ladV (clampL l) (ofKey m)))))) rfl (congrArg Value.agg (extract_all _ 32 (by rw [numsA_size]; exact keyOf_length _))) rfl hK'
        · obtain rfl := Option.some.inj ho
          exact hI.pureQ (by kernel_rfl) hls rfl rfl rfl (.agg (numsA .u8 zeroKL)) (zeroKL_bld rfl wn) (.val (.agg (numsA .u8 zeroKL))) rfl rfl rfl hK'
        · obtain rfl := Option.some.inj ho
          obtain ⟨vp, hvp, hsp⟩ := hI.haveQ 0 _ 10 (.val (.agg (numsA .u8 (keyOf (ladV (clampL l) (ofKey m)))))) rfl rfl rfl (hdep ⟨0, .data⟩ (by simp) rfl)
          obtain rfl := hsp
          obtain ⟨vq, hvq, hsq⟩ := hI.haveQ 1 _ 11 (.val (.agg (numsA .u8 zeroKL))) rfl rfl rfl (hdep ⟨1, .data⟩ (by simp) rfl)
          obtain rfl := hsq
          exact hI.pureQ (by kernel_rfl) hls rfl rfl rfl (.bool false) (run_eqlK (b := false) rfl (eval_of hvp) (eval_of hvq) (keyOf_length _) zeroKL_length hf wn) (.val (.bool false)) rfl rfl rfl hK'
        · exact hi.elim
      · intro an w3 hI
        obtain ⟨vr2_0, hvr2_0, hsr2_0⟩ := hI.haveQ 0 _ 10 (.val (.agg (numsA .u8 (keyOf (ladV (clampL l) (ofKey m)))))) rfl rfl rfl rfl
        obtain rfl := hsr2_0
        obtain ⟨vr2_1, hvr2_1, hsr2_1⟩ := hI.haveQ 1 _ 11 (.val (.agg (numsA .u8 zeroKL))) rfl rfl rfl rfl
        obtain rfl := hsr2_1
        obtain ⟨vr2_2, hvr2_2, hsr2_2⟩ := hI.haveQ 2 _ 12 (.val (.bool false)) rfl rfl rfl rfl
        obtain rfl := hsr2_2
        have hupd := hI.upd
        have ha := hI.act [(10, .agg (numsA .u8 (keyOf (ladV (clampL l) (ofKey m))))), (11, .agg (numsA .u8 zeroKL)), (12, .bool false)] (by simp [hvr2_0, hvr2_1, hvr2_2]) (by kernel_rfl)
        clear hI hvr2_0 hvr2_1 hvr2_2
        subst ha
        simp only [List.foldl_cons, List.foldl_nil, List.setIfInBounds_toArray, List.set_cons_zero, List.set_cons_succ]
        have Bxr0y0_2 := Lib.hid (hupd.blk (show Blk ws1_0 br0_0 23 (numsA .u8 l) from Bxr0y0_s1_0.out) (fun h => h))
        have Bxr0y1_2 := Lib.hid (hupd.blk (show Blk ws1_0 br0_1 23 (numsA .u8 m) from Bxr0y1_s1_0.out) (fun h => h))
        have Bxr0y2_2 := Lib.hid (hupd.blk (show Blk ws1_0 br0_2 23 (numsA .u8 zeroKL) from Bxr0y2_s1_0.out) (fun h => h))
        have Bxr1y3_2 := Lib.hid (hupd.blk (show Blk ws1_0 br1_3 23 (numsA .u8 (keyOf (ladV (clampL l) (ofKey m)))) from Bxr1y3_s1_0.out) (fun h => h))
        have HU2 := Lib.hid (HU1_0.out.trans hupd)
        clear hupd
        refine wpOps_nil ?_
        refine hK3 _ _ ?_
        clear hK3
        refine wp_cond_false rfl ?_
        refine wp_skip ?_
        refine hK2 _ _ ?_
        clear hK2
        refine wp_seq_k fun K4 hK4 => ?_
        refine wp_region_qS 1 #[true, false, false] [1, 2] ([.val (.agg (numsA .u8 (keyOf (ladV (clampL l) (ofKey m))))), .val undef, .val undef] : List SQ) (by kernel_rfl) (by kernel_rfl) (by kernel_rfl) ?_ ?_
        · intro i o listed an wn ho hls hst hun hdep hI hpre K' hK'
          have hi : i = 0 ∨ False := slot_cases (l := [0]) rfl ho hst
          rcases hi with rfl | hi
          · obtain rfl := Option.some.inj ho
            have hvp : an.eval (.tmp 6) = ptrTo br1_3 := hI.oldQ (by kernel_rfl) rfl
            exact hI.pureQ (by kernel_rfl) hls rfl rfl rfl _ (run_loadQ rfl hvp wn (hI.upd.blk (show Blk w3 br1_3 23 (numsA .u8 (keyOf (ladV (clampL l) (ofKey m)))) from Bxr1y3_2.out) (fun h => h)) Tryd.underlying23 rfl sizeKey (by rw [numsA_size, keyOf_length _]; omega)) (.val (.agg (numsA .u8 (keyOf (ladV (clampL l) (ofKey m)))))) rfl (congrArg Value.agg (extract_all _ 32 (by rw [numsA_size]; exact keyOf_length _))) rfl hK'
          · exact hi.elim
        · intro an w4 hI
          obtain ⟨vr3_0, hvr3_0, hsr3_0⟩ := hI.haveQ 0 _ 14 (.val (.agg (numsA .u8 (keyOf (ladV (clampL l) (ofKey m)))))) rfl rfl rfl rfl
          obtain rfl := hsr3_0
          have hupd := hI.upd
          have ha := hI.act [(14, .agg (numsA .u8 (keyOf (ladV (clampL l) (ofKey m)))))] (by simp [hvr3_0]) (by kernel_rfl)
          clear hI hvr3_0
          subst ha
          simp only [List.foldl_cons, List.foldl_nil, List.setIfInBounds_toArray, List.set_cons_zero, List.set_cons_succ]
          have Bxr0y0_3 := Lib.hid (hupd.blk (show Blk w3 br0_0 23 (numsA .u8 l) from Bxr0y0_2.out) (fun h => h))
          have Bxr0y1_3 := Lib.hid (hupd.blk (show Blk w3 br0_1 23 (numsA .u8 m) from Bxr0y1_2.out) (fun h => h))
          have Bxr0y2_3 := Lib.hid (hupd.blk (show Blk w3 br0_2 23 (numsA .u8 zeroKL) from Bxr0y2_2.out) (fun h => h))
          have Bxr1y3_3 := Lib.hid (hupd.blk (show Blk w3 br1_3 23 (numsA .u8 (keyOf (ladV (clampL l) (ofKey m)))) from Bxr1y3_2.out) (fun h => h))
          have HU3 := Lib.hid (HU2.out.trans hupd)
          clear hupd
          refine wpOps_storeQ 1 rfl rfl rfl 23 (.tmp 4) (.tmp 14) rfl br0_2 0 32 rfl (numsA .u8 (keyOf (ladV (clampL l) (ofKey m)))) rfl 23 (numsA .u8 zeroKL) Bxr0y2_3.out sizeKey (by rw [numsA_size]; exact keyOf_length _) (by rw [(show (numsA _ _).size = 32 by rw [numsA_size]; exact zeroKL_length)]; exact Nat.le_of_ble_eq_true rfl) (numsA_one _ _) ?_
          intro ws3_0 hs3_0 hus3_0
          rw [splice_all _ _ 32 (show (numsA _ _).size = 32 by rw [numsA_size]; exact zeroKL_length) (by rw [numsA_size]; exact keyOf_length _)] at hs3_0
          have Bxr0y0_s3_0 := Lib.hid (hus3_0.blk Bxr0y0_3.out (fun e => hner0_0_r0_2.out e))
          have Bxr0y1_s3_0 := Lib.hid (hus3_0.blk Bxr0y1_3.out (fun e => hner0_1_r0_2.out e))
          have Bxr1y3_s3_0 := Lib.hid (hus3_0.blk Bxr1y3_3.out (fun e => hner1_3_Bxr0y2.out e))
          have Bxr0y2_s3_0 := Lib.hid hs3_0
          have HU3_0 := Lib.hid (HU3.out.step hus3_0 (fun i hi h => absurd hi (Nat.not_lt.2 (h.symm ▸ hger0_2.out))))
          clear hs3_0 hus3_0
          refine wpOps_pureQ 2 rfl rfl 5 rfl (.int .i64 0) (run_moveQ (x := .const (.int .i64 0)) (v := .int .i64 0) (.inr rfl) rfl _) ?_
          simp only [List.setIfInBounds_toArray, List.set_cons_zero, List.set_cons_succ]
          refine wpOps_nil ?_
          refine hK4 _ _ ?_
          clear hK4
          refine wp_ret ?_
          try dsimp only [Exit.then]
          try dsimp only [Exit.inBlock]
          exact bodyPost_ret (v := .tuple #[.agg (numsA .u8 (keyOf (ladV (clampL l) (ofKey m)))), .int .i64 0]) (results_cell_tmpQ (fn := Tryd.f20) (p := 4) (q := 5) (ty := 23) rfl _ _ br0_2 (numsA .u8 (keyOf (ladV (clampL l) (ofKey m)))) (.int .i64 0) rfl rfl Bxr0y2_s3_0.out Tryd.underlying23 rfl (by rw [numsA_size, keyOf_length _]; exact sizeKey)) rfl ⟨by rw [hz], HU3_0.out⟩
theorem ragreeL {l m : List Int} (w : World) (hl : l.length = 32) (hd : Digs 256 l) (hm : m.length = 32) (hn : Digs 256 m) :
    Calls Tryd.prog 20 #[.agg (numsA .u8 l), .agg (numsA .u8 m)] w fun e w' => e = .returned (.tuple #[.agg (numsA .u8 (keyOf (ladV (clampL l) (ofKey m)))), .int .i64 (agE (ladV (clampL l) (ofKey m)))]) ∧ Upd (fun _ => False) w w' := by
  by_cases hk : keyOf (ladV (clampL l) (ofKey m)) = zeroKL
  · exact ragreetrue w hl hd hm hn hk
  · exact ragreefalse w hl hd hm hn hk
end Go.Proofs.YtdpafemcpbhlfaaDoor
