/-
  The walk of PointTiny.
-/
import Derived.Test.YtdpafemcpbhlfaaDoorPt5
namespace Go.Proofs.YtdpafemcpbhlfaaDoor
set_option maxRecDepth 100000
open Go.RowKit

def keyT0 : List Int := [8, 0, 0, 0, 0, 0, 0, 0, 0, 0, 0, 0, 0, 0, 0, 0, 0, 0, 0, 0, 0, 0, 0, 0, 0, 0, 0, 0, 0, 0, 0, 0]
theorem keyT0_length : keyT0.length = 32 := rfl
theorem keyT0_digs : Digs 256 keyT0 := digs_of_all (by decide)
theorem keyT0_run {o : Oper} {a : Act} (ho : o.op = .build 23 #[(0, .const (.int .u8 8))]) (w : World) : (execOp a.eval o).run Tryd.prog w = .ok (.value (.agg (numsA .u8 keyT0))) w := by
  have hb : (Instr.build 23 #[(0, .int .u8 8)]).run Tryd.prog w = .ok (.agg (numsA .u8 keyT0)) w := by kernel_rfl
  have hm : (#[(0, .const (.int .u8 8))] : Array (Nat × Operand)).map (fun (i, x) => (i, a.eval x)) = #[(0, .int .u8 8)] := by simp [Act.eval]
  unfold execOp
  simp only [ho]
  rw [hm, Sem.run_bind, hb]
  rfl
theorem tiny_sum {e f : EP} (h : edEq (e.times 8) EP.nil = true) : edEq ((e.plus f).times (expo keyT0)) (f.times (expo keyT0)) = true := by
  have h8 : expo keyT0 = 8 := by decide +kernel
  rw [h8]
  apply edEq_t
  rw [plus_times, edEq_iff.1 h, nil_plus]
set_option maxHeartbeats 4000000 in
theorem ptinyN {a k : List Int} (w : World) (hT : Tw w) (ha : a.length = 32) (da : Digs 256 a) (hk : ∀ e : EP, encP e ≠ a) :
    Calls Tryd.prog 12 #[.agg (numsA .u8 a), .agg (numsA .u8 k)] w fun e w' => e = .returned (.bool true) ∧ Upd (fun _ => False) w w' := by
  have HT := Lib.hid hT
  clear hT
  have HU := Lib.hid (Upd.refl (fun _ => False) w)
  go_enter Tryd.func12, Tryd.ntmps12
  refine wp_seq_k fun K0 hK0 => ?_
  refine wp_region_qS 3 #[true, true, true] [] ([.blk ptrTo 23 (fun z => z = numsA .u8 a), .blk ptrTo 23 (fun z => z = numsA .u8 k), .val (.bool false)] : List SQ) (by kernel_rfl) (by kernel_rfl) (by kernel_rfl) ?_ ?_
  · intro i o listed an wn ho hls hst hun hdep hI hpre K' hK'
    have hi : i = 0 ∨ i = 1 ∨ i = 2 ∨ False := slot_cases (l := [0, 1, 2]) rfl ho hst
    rcases hi with rfl | rfl | rfl | hi
    · obtain rfl := Option.some.inj ho
      have hvp : an.eval (.tmp 0) = .agg (numsA .u8 a) := hI.oldQ (by kernel_rfl) rfl
      exact hI.newQ (by kernel_rfl) hls (Nat.le_refl _) (newsQ_spec (l := [0, 1]) (by kernel_rfl) ⟨⟨_, _, rfl⟩, ⟨_, _, rfl⟩, trivial⟩) rfl rfl rfl 23 _ (fun z => z = numsA .u8 a) (run_boxQ rfl hvp wn) rfl rfl hK'
    · obtain rfl := Option.some.inj ho
      have hvp : an.eval (.tmp 1) = .agg (numsA .u8 k) := hI.oldQ (by kernel_rfl) rfl
      exact hI.newQ (by kernel_rfl) hls (Nat.le_refl _) (newsQ_spec (l := [0, 1]) (by kernel_rfl) ⟨⟨_, _, rfl⟩, ⟨_, _, rfl⟩, trivial⟩) rfl rfl rfl 23 _ (fun z => z = numsA .u8 k) (run_boxQ rfl hvp wn) rfl rfl hK'
    · obtain rfl := Option.some.inj ho
      exact hI.pureQ (by kernel_rfl) hls rfl rfl rfl (.bool false) (run_moveQ (.inr rfl) (show an.eval (.const (.bool false)) = .bool false from rfl) wn) (.val (.bool false)) rfl rfl rfl hK'
    · exact hi.elim
  · intro an w1 hI
    obtain ⟨vr0_0, hvr0_0, br0_0, zr0_0, rfl, hnr0_0, hbr0_0, hzr0_0⟩ := hI.haveQ 0 _ 2 (.blk ptrTo 23 (fun z => z = numsA .u8 a)) rfl rfl rfl rfl
    rw [hzr0_0] at hbr0_0
    clear hzr0_0
    obtain ⟨vr0_1, hvr0_1, br0_1, zr0_1, rfl, hnr0_1, hbr0_1, hzr0_1⟩ := hI.haveQ 1 _ 3 (.blk ptrTo 23 (fun z => z = numsA .u8 k)) rfl rfl rfl rfl
    rw [hzr0_1] at hbr0_1
    clear hzr0_1
    obtain ⟨vr0_2, hvr0_2, hsr0_2⟩ := hI.haveQ 2 _ 4 (.val (.bool false)) rfl rfl rfl rfl
    obtain rfl := hsr0_2
    have hupd := hI.upd
    have hner0_0_r0_1 := Lib.hid (show br0_0 ≠ br0_1 from fun e => hI.apart 0 1 _ _ 2 3 (by omega) rfl rfl rfl rfl rfl rfl rfl rfl (by rw [hvr0_0, hvr0_1, e]))
    have ha := hI.act [(2, ptrTo br0_0), (3, ptrTo br0_1), (4, .bool false)] (by simp [hvr0_0, hvr0_1, hvr0_2]) (by kernel_rfl)
    clear hI hvr0_0 hvr0_1 hvr0_2
    subst ha
    simp only [List.foldl_cons, List.foldl_nil, List.setIfInBounds_toArray, List.set_cons_zero, List.set_cons_succ]
    have hger0_0 := Lib.hid (Nat.le_trans HU.out.size hnr0_0)
    have hger0_1 := Lib.hid (Nat.le_trans HU.out.size hnr0_1)
    have Bxr0y0 := Lib.hid hbr0_0
    have Bxr0y1 := Lib.hid hbr0_1
    have HU0 := Lib.hid (HU.out.trans hupd)
    clear hupd
    refine wpOps_nil ?_
    refine hK0 _ _ ?_
    clear hK0
    refine wp_seq_k fun K1 hK1 => ?_
    refine wp_seq_k fun K2 hK2 => ?_
    refine wp_region_qS 2 #[true, true] [] ([.val (.bool true), .val (.bool false)] : List SQ) (by kernel_rfl) (by kernel_rfl) (by kernel_rfl) ?_ ?_
    · intro i o listed an wn ho hls hst hun hdep hI hpre K' hK'
      have hi : i = 0 ∨ i = 1 ∨ False := slot_cases (l := [0, 1]) rfl ho hst
      rcases hi with rfl | rfl | hi
      · obtain rfl := Option.some.inj ho
        exact hI.callQ (by kernel_rfl) hls rfl rfl rfl 23 #[] _ rfl #[] (by simp) (run_enter Tryd.func23 (by kernel_rfl) (by kernel_rfl)) (.val (.bool true)) rfl rfl ((basedL _ (HT.out.upd (HU0.out.trans hI.upd))).mono fun _ _ h => ret_val h) hK'
      · obtain rfl := Option.some.inj ho
        obtain ⟨vp, hvp, hsp⟩ := hI.haveQ 0 _ 9 (.val (.bool true)) rfl rfl rfl (hdep ⟨0, .data⟩ (by simp) rfl)
        obtain rfl := hsp
        exact hI.pureQ (by kernel_rfl) hls rfl rfl rfl (.bool false) (run_not rfl (eval_of hvp) wn) (.val (.bool false)) rfl rfl rfl hK'
      · exact hi.elim
    · intro an w2 hI
      obtain ⟨vr1_0, hvr1_0, hsr1_0⟩ := hI.haveQ 0 _ 9 (.val (.bool true)) rfl rfl rfl rfl
      obtain rfl := hsr1_0
      obtain ⟨vr1_1, hvr1_1, hsr1_1⟩ := hI.haveQ 1 _ 10 (.val (.bool false)) rfl rfl rfl rfl
      obtain rfl := hsr1_1
      have hupd := hI.upd
      have ha := hI.act [(9, .bool true), (10, .bool false)] (by simp [hvr1_0, hvr1_1]) (by kernel_rfl)
      clear hI hvr1_0 hvr1_1
      subst ha
      simp only [List.foldl_cons, List.foldl_nil, List.setIfInBounds_toArray, List.set_cons_zero, List.set_cons_succ]
      have Bxr0y0_1 := Lib.hid (hupd.blk (show Blk w1 br0_0 23 (numsA .u8 a) from Bxr0y0.out) (fun h => h))
      have Bxr0y1_1 := Lib.hid (hupd.blk (show Blk w1 br0_1 23 (numsA .u8 k) from Bxr0y1.out) (fun h => h))
      have HU1 := Lib.hid (HU0.out.trans hupd)
      clear hupd
      refine wpOps_nil ?_
      refine hK2 _ _ ?_
      clear hK2
      refine wp_cond_false rfl ?_
      refine wp_skip ?_
      refine hK1 _ _ ?_
      clear hK1
      refine wp_seq_k fun K3 hK3 => ?_
      refine wp_region_qS 6 #[true, true, true, true, true, true, false, false] [6, 7] ([.val (.agg (numsA .u8 a)), .like (IsCV 20 RP [none] (.int .i64 60)), .like (IsCV 20 RP [none] (.int .i64 60)), .like (IsC 20 RP [none]), .val (.int .i64 60), .blk ptrTo 41 (Ch 20 RP [none]), .val undef, .val undef] : List SQ) (by kernel_rfl) (by kernel_rfl) (by kernel_rfl) ?_ ?_
      · intro i o listed an wn ho hls hst hun hdep hI hpre K' hK'
        have hi : i = 0 ∨ i = 1 ∨ i = 2 ∨ i = 3 ∨ i = 4 ∨ i = 5 ∨ False := slot_cases (l := [0, 1, 2, 3, 4, 5]) rfl ho hst
        rcases hi with rfl | rfl | rfl | rfl | rfl | rfl | hi
        · obtain rfl := Option.some.inj ho
          have hvp : an.eval (.tmp 2) = ptrTo br0_0 := hI.oldQ (by kernel_rfl) rfl
          exact hI.pureQ (by kernel_rfl) hls rfl rfl rfl _ (run_loadQ rfl hvp wn (hI.upd.blk (show Blk w2 br0_0 23 (numsA .u8 a) from Bxr0y0_1.out) (fun h => h)) Tryd.underlying23 rfl sizeKey (by rw [numsA_size, ha]; omega)) (.val (.agg (numsA .u8 a))) rfl (congrArg Value.agg (extract_all _ 32 (by rw [numsA_size]; exact ha))) rfl hK'
        · obtain rfl := Option.some.inj ho
          obtain ⟨vp, hvp, hsp⟩ := hI.haveQ 0 _ 12 (.val (.agg (numsA .u8 a))) rfl rfl rfl (hdep ⟨0, .data⟩ (by simp) rfl)
          obtain rfl := hsp
          exact hI.callQ (by kernel_rfl) hls rfl rfl rfl 24 #[.tmp 12] _ rfl #[.agg (numsA .u8 a)] (by simp [eval_of hvp]) (run_enter Tryd.func24 (by kernel_rfl) (by kernel_rfl)) (.like (IsCV 20 RP [none] (.int .i64 60))) rfl rfl ((decodeF _ (HT.out.upd (HU1.out.trans hI.upd)) ha da hk).mono fun _ _ h => h.sq) hK'
        · obtain rfl := Option.some.inj ho
          obtain ⟨vp, hvp, ap, rfl, hCp⟩ := hI.haveQ 1 _ 13 (.like (IsCV 20 RP [none] (.int .i64 60))) rfl rfl rfl (hdep ⟨1, .data⟩ (by simp) rfl)
          exact hI.pureQ (by kernel_rfl) hls rfl rfl rfl _ (run_moveQ (.inl rfl) (eval_of hvp) wn) (.like (IsCV 20 RP [none] (.int .i64 60))) rfl ⟨_, rfl, hCp⟩ rfl hK'
        · obtain rfl := Option.some.inj ho
          obtain ⟨vp, hvp, ap, rfl, hCp⟩ := hI.haveQ 2 _ 11 (.like (IsCV 20 RP [none] (.int .i64 60))) rfl rfl rfl (hdep ⟨2, .data⟩ (by simp) rfl)
          exact hI.pureQ (by kernel_rfl) hls rfl rfl rfl _ (run_extractQ rfl (eval_of hvp) rfl wn) (.like (IsC 20 RP [none])) rfl ⟨_, rfl, hCp⟩ rfl hK'
        · obtain rfl := Option.some.inj ho
          obtain ⟨vp, hvp, ap, rfl, hCp⟩ := hI.haveQ 2 _ 11 (.like (IsCV 20 RP [none] (.int .i64 60))) rfl rfl rfl (hdep ⟨2, .data⟩ (by simp) rfl)
          exact hI.pureQ (by kernel_rfl) hls rfl rfl rfl (.int .i64 60) (run_extractQ rfl (eval_of hvp) rfl wn) (.val (.int .i64 60)) rfl rfl rfl hK'
        · obtain rfl := Option.some.inj ho
          exact hI.newQ (by kernel_rfl) hls (Nat.le_refl _) (newsQ_spec (l := [5]) (by kernel_rfl) ⟨⟨_, _, rfl⟩, trivial⟩) rfl rfl rfl 41 zPt _ (run_allocQ rfl zPt_run wn) rfl zPt_p hK'
        · exact hi.elim
      · intro an w3 hI
        obtain ⟨vr2_0, hvr2_0, hsr2_0⟩ := hI.haveQ 0 _ 12 (.val (.agg (numsA .u8 a))) rfl rfl rfl rfl
        obtain rfl := hsr2_0
        obtain ⟨vr2_1, hvr2_1, ar2_1, rfl, hCr2_1⟩ := hI.haveQ 1 _ 13 (.like (IsCV 20 RP [none] (.int .i64 60))) rfl rfl rfl rfl
        obtain ⟨vr2_2, hvr2_2, ar2_2, rfl, hCr2_2⟩ := hI.haveQ 2 _ 11 (.like (IsCV 20 RP [none] (.int .i64 60))) rfl rfl rfl rfl
        obtain ⟨vr2_3, hvr2_3, ar2_3, rfl, hCr2_3⟩ := hI.haveQ 3 _ 14 (.like (IsC 20 RP [none])) rfl rfl rfl rfl
        obtain ⟨vr2_4, hvr2_4, hsr2_4⟩ := hI.haveQ 4 _ 15 (.val (.int .i64 60)) rfl rfl rfl rfl
        obtain rfl := hsr2_4
        obtain ⟨vr2_5, hvr2_5, br2_5, zr2_5, rfl, hnr2_5, hbr2_5, hzr2_5⟩ := hI.haveQ 5 _ 5 (.blk ptrTo 41 (Ch 20 RP [none])) rfl rfl rfl rfl
        have hupd := hI.upd
        have ha := hI.act [(12, .agg (numsA .u8 a)), (13, .tuple #[.agg ar2_1, .int .i64 60]), (11, .tuple #[.agg ar2_2, .int .i64 60]), (14, .agg ar2_3), (15, .int .i64 60), (5, ptrTo br2_5)] (by simp [hvr2_0, hvr2_1, hvr2_2, hvr2_3, hvr2_4, hvr2_5]) (by kernel_rfl)
        clear hI hvr2_0 hvr2_1 hvr2_2 hvr2_3 hvr2_4 hvr2_5
        subst ha
        simp only [List.foldl_cons, List.foldl_nil, List.setIfInBounds_toArray, List.set_cons_zero, List.set_cons_succ]
        have hner2_5_Bxr0y0_1 := Lib.hid (show br2_5 ≠ br0_0 from Nat.ne_of_gt (Nat.lt_of_lt_of_le Bxr0y0_1.out.lt hnr2_5))
        have hner2_5_Bxr0y1_1 := Lib.hid (show br2_5 ≠ br0_1 from Nat.ne_of_gt (Nat.lt_of_lt_of_le Bxr0y1_1.out.lt hnr2_5))
        have hger2_5 := Lib.hid (Nat.le_trans HU1.out.size hnr2_5)
        have Bxr0y0_2 := Lib.hid (hupd.blk (show Blk w2 br0_0 23 (numsA .u8 a) from Bxr0y0_1.out) (fun h => h))
        have Bxr0y1_2 := Lib.hid (hupd.blk (show Blk w2 br0_1 23 (numsA .u8 k) from Bxr0y1_1.out) (fun h => h))
        have Bxr2y5 := Lib.hid hbr2_5
        have HU2 := Lib.hid (HU1.out.trans hupd)
        clear hupd
        refine wpOps_storeQ 6 rfl rfl rfl 41 (.tmp 5) (.tmp 14) rfl br2_5 0 20 rfl ar2_3 rfl 41 zr2_5 Bxr2y5.out szPt hCr2_3.size (by rw [hzr2_5.size]; exact Nat.le_of_ble_eq_true rfl) hCr2_3.one' ?_
        intro ws2_0 hs2_0 hus2_0
        rw [splice_all _ _ 20 hzr2_5.size hCr2_3.size] at hs2_0
        have Bxr0y0_s2_0 := Lib.hid (hus2_0.blk Bxr0y0_2.out (fun e => hner2_5_Bxr0y0_1.out e.symm))
        have Bxr0y1_s2_0 := Lib.hid (hus2_0.blk Bxr0y1_2.out (fun e => hner2_5_Bxr0y1_1.out e.symm))
        have Bxr2y5_s2_0 := Lib.hid hs2_0
        have HU2_0 := Lib.hid (HU2.out.step hus2_0 (fun i hi h => absurd hi (Nat.not_lt.2 (h.symm ▸ hger2_5.out))))
        clear hs2_0 hus2_0
        refine wpOps_pureQ 7 rfl rfl 6 rfl (.int .i64 60) (run_moveQ (x := .tmp 15) (v := .int .i64 60) (.inr rfl) rfl _) ?_
        simp only [List.setIfInBounds_toArray, List.set_cons_zero, List.set_cons_succ]
        refine wpOps_nil ?_
        refine hK3 _ _ ?_
        clear hK3
        refine wp_seq_k fun K4 hK4 => ?_
        refine wp_seq_k fun K5 hK5 => ?_
        refine wp_region_qS 2 #[true, true] [] ([.val (.int .i64 60), .val (.bool true)] : List SQ) (by kernel_rfl) (by kernel_rfl) (by kernel_rfl) ?_ ?_
        · intro i o listed an wn ho hls hst hun hdep hI hpre K' hK'
          have hi : i = 0 ∨ i = 1 ∨ False := slot_cases (l := [0, 1]) rfl ho hst
          rcases hi with rfl | rfl | hi
          · obtain rfl := Option.some.inj ho
            have hvp : an.eval (.tmp 6) = .int .i64 60 := hI.oldQ (by kernel_rfl) rfl
            exact hI.pureQ (by kernel_rfl) hls rfl rfl rfl (.int .i64 60) (run_moveQ (.inl rfl) hvp wn) (.val (.int .i64 60)) rfl rfl rfl hK'
          · obtain rfl := Option.some.inj ho
            obtain ⟨vp, hvp, hsp⟩ := hI.haveQ 0 _ 16 (.val (.int .i64 60)) rfl rfl rfl (hdep ⟨0, .data⟩ (by simp) rfl)
            obtain rfl := hsp
            exact hI.pureQ (by kernel_rfl) hls rfl rfl rfl (.bool true) (run_neq rfl (eval_of hvp) rfl (ne_of_eqB (show decide ((60 : Int) = 0) = false by decide)) wn) (.val (.bool true)) rfl rfl rfl hK'
          · exact hi.elim
        · intro an w4 hI
          obtain ⟨vr3_0, hvr3_0, hsr3_0⟩ := hI.haveQ 0 _ 16 (.val (.int .i64 60)) rfl rfl rfl rfl
          obtain rfl := hsr3_0
          obtain ⟨vr3_1, hvr3_1, hsr3_1⟩ := hI.haveQ 1 _ 17 (.val (.bool true)) rfl rfl rfl rfl
          obtain rfl := hsr3_1
          have hupd := hI.upd
          have ha := hI.act [(16, .int .i64 60), (17, .bool true)] (by simp [hvr3_0, hvr3_1]) (by kernel_rfl)
          clear hI hvr3_0 hvr3_1
          subst ha
          simp only [List.foldl_cons, List.foldl_nil, List.setIfInBounds_toArray, List.set_cons_zero, List.set_cons_succ]
          have Bxr0y0_3 := Lib.hid (hupd.blk (show Blk ws2_0 br0_0 23 (numsA .u8 a) from Bxr0y0_s2_0.out) (fun h => h))
          have Bxr0y1_3 := Lib.hid (hupd.blk (show Blk ws2_0 br0_1 23 (numsA .u8 k) from Bxr0y1_s2_0.out) (fun h => h))
          have Bxr2y5_3 := Lib.hid (hupd.blk (show Blk ws2_0 br2_5 41 ar2_3 from Bxr2y5_s2_0.out) (fun h => h))
          have HU3 := Lib.hid (HU2_0.out.trans hupd)
          clear hupd
          refine wpOps_nil ?_
          refine hK5 _ _ ?_
          clear hK5
          refine wp_cond_true rfl ?_
          refine wp_seq_k fun K6 hK6 => ?_
          refine wp_region_qS 1 #[true] [] ([.val (.bool true)] : List SQ) (by kernel_rfl) (by kernel_rfl) (by kernel_rfl) ?_ ?_
          · intro i o listed an wn ho hls hst hun hdep hI hpre K' hK'
            have hi : i = 0 ∨ False := slot_cases (l := [0]) rfl ho hst
            rcases hi with rfl | hi
            · obtain rfl := Option.some.inj ho
              exact hI.pureQ (by kernel_rfl) hls rfl rfl rfl (.bool true) (run_moveQ (.inr rfl) (show an.eval (.const (.bool true)) = .bool true from rfl) wn) (.val (.bool true)) rfl rfl rfl hK'
            · exact hi.elim
          · intro an w5 hI
            obtain ⟨vr4_0, hvr4_0, hsr4_0⟩ := hI.haveQ 0 _ 4 (.val (.bool true)) rfl rfl rfl rfl
            obtain rfl := hsr4_0
            have hupd := hI.upd
            have ha := hI.act [(4, .bool true)] (by simp [hvr4_0]) (by kernel_rfl)
            clear hI hvr4_0
            subst ha
            simp only [List.foldl_cons, List.foldl_nil, List.setIfInBounds_toArray, List.set_cons_zero, List.set_cons_succ]
            have Bxr0y0_4 := Lib.hid (hupd.blk (show Blk w4 br0_0 23 (numsA .u8 a) from Bxr0y0_3.out) (fun h => h))
            have Bxr0y1_4 := Lib.hid (hupd.blk (show Blk w4 br0_1 23 (numsA .u8 k) from Bxr0y1_3.out) (fun h => h))
            have Bxr2y5_4 := Lib.hid (hupd.blk (show Blk w4 br2_5 41 ar2_3 from Bxr2y5_3.out) (fun h => h))
            have HU4 := Lib.hid (HU3.out.trans hupd)
            clear hupd
            refine wpOps_nil ?_
            refine hK6 _ _ ?_
            clear hK6
            refine wp_ret ?_
            try dsimp only [Exit.then]
            try dsimp only [Exit.inBlock]
            exact bodyPost_ret (v := .bool true) (results_tmpQ (fn := Tryd.f12) (t := 4) rfl _ _ (.bool true) rfl) rfl ⟨rfl, HU4.out⟩
set_option maxHeartbeats 4000000 in
theorem ptinyT {a k : List Int} {eP : EP} (w : World) (hT : Tw w) (ha : a.length = 32) (da : Digs 256 a) (hl : k.length = 32) (hd : Digs 256 k) (hk : encP eP = a) (hb : edEq (eP.times 8) EP.nil = true) :
    Calls Tryd.prog 12 #[.agg (numsA .u8 a), .agg (numsA .u8 k)] w fun e w' => e = .returned (.bool true) ∧ Upd (fun _ => False) w w' := by
  have HT := Lib.hid hT
  clear hT
  have HU := Lib.hid (Upd.refl (fun _ => False) w)
  go_enter Tryd.func12, Tryd.ntmps12
  refine wp_seq_k fun K0 hK0 => ?_
  refine wp_region_qS 3 #[true, true, true] [] ([.blk ptrTo 23 (fun z => z = numsA .u8 a), .blk ptrTo 23 (fun z => z = numsA .u8 k), .val (.bool false)] : List SQ) (by kernel_rfl) (by kernel_rfl) (by kernel_rfl) ?_ ?_
  · intro i o listed an wn ho hls hst hun hdep hI hpre K' hK'
    have hi : i = 0 ∨ i = 1 ∨ i = 2 ∨ False := slot_cases (l := [0, 1, 2]) rfl ho hst
    rcases hi with rfl | rfl | rfl | hi
    · obtain rfl := Option.some.inj ho
      have hvp : an.eval (.tmp 0) = .agg (numsA .u8 a) := hI.oldQ (by kernel_rfl) rfl
      exact hI.newQ (by kernel_rfl) hls (Nat.le_refl _) (newsQ_spec (l := [0, 1]) (by kernel_rfl) ⟨⟨_, _, rfl⟩, ⟨_, _, rfl⟩, trivial⟩) rfl rfl rfl 23 _ (fun z => z = numsA .u8 a) (run_boxQ rfl hvp wn) rfl rfl hK'
    · obtain rfl := Option.some.inj ho
      have hvp : an.eval (.tmp 1) = .agg (numsA .u8 k) := hI.oldQ (by kernel_rfl) rfl
      exact hI.newQ (by kernel_rfl) hls (Nat.le_refl _) (newsQ_spec (l := [0, 1]) (by kernel_rfl) ⟨⟨_, _, rfl⟩, ⟨_, _, rfl⟩, trivial⟩) rfl rfl rfl 23 _ (fun z => z = numsA .u8 k) (run_boxQ rfl hvp wn) rfl rfl hK'
    · obtain rfl := Option.some.inj ho
      exact hI.pureQ (by kernel_rfl) hls rfl rfl rfl (.bool false) (run_moveQ (.inr rfl) (show an.eval (.const (.bool false)) = .bool false from rfl) wn) (.val (.bool false)) rfl rfl rfl hK'
    · exact hi.elim
  · intro an w1 hI
    obtain ⟨vr0_0, hvr0_0, br0_0, zr0_0, rfl, hnr0_0, hbr0_0, hzr0_0⟩ := hI.haveQ 0 _ 2 (.blk ptrTo 23 (fun z => z = numsA .u8 a)) rfl rfl rfl rfl
    rw [hzr0_0] at hbr0_0
    clear hzr0_0
    obtain ⟨vr0_1, hvr0_1, br0_1, zr0_1, rfl, hnr0_1, hbr0_1, hzr0_1⟩ := hI.haveQ 1 _ 3 (.blk ptrTo 23 (fun z => z = numsA .u8 k)) rfl rfl rfl rfl
    rw [hzr0_1] at hbr0_1
    clear hzr0_1
    obtain ⟨vr0_2, hvr0_2, hsr0_2⟩ := hI.haveQ 2 _ 4 (.val (.bool false)) rfl rfl rfl rfl
    obtain rfl := hsr0_2
    have hupd := hI.upd
    have hner0_0_r0_1 := Lib.hid (show br0_0 ≠ br0_1 from fun e => hI.apart 0 1 _ _ 2 3 (by omega) rfl rfl rfl rfl rfl rfl rfl rfl (by rw [hvr0_0, hvr0_1, e]))
    have ha := hI.act [(2, ptrTo br0_0), (3, ptrTo br0_1), (4, .bool false)] (by simp [hvr0_0, hvr0_1, hvr0_2]) (by kernel_rfl)
    clear hI hvr0_0 hvr0_1 hvr0_2
    subst ha
    simp only [List.foldl_cons, List.foldl_nil, List.setIfInBounds_toArray, List.set_cons_zero, List.set_cons_succ]
    have hger0_0 := Lib.hid (Nat.le_trans HU.out.size hnr0_0)
    have hger0_1 := Lib.hid (Nat.le_trans HU.out.size hnr0_1)
    have Bxr0y0 := Lib.hid hbr0_0
    have Bxr0y1 := Lib.hid hbr0_1
    have HU0 := Lib.hid (HU.out.trans hupd)
    clear hupd
    refine wpOps_nil ?_
    refine hK0 _ _ ?_
    clear hK0
    refine wp_seq_k fun K1 hK1 => ?_
    refine wp_seq_k fun K2 hK2 => ?_
    refine wp_region_qS 2 #[true, true] [] ([.val (.bool true), .val (.bool false)] : List SQ) (by kernel_rfl) (by kernel_rfl) (by kernel_rfl) ?_ ?_
    · intro i o listed an wn ho hls hst hun hdep hI hpre K' hK'
      have hi : i = 0 ∨ i = 1 ∨ False := slot_cases (l := [0, 1]) rfl ho hst
      rcases hi with rfl | rfl | hi
      · obtain rfl := Option.some.inj ho
        exact hI.callQ (by kernel_rfl) hls rfl rfl rfl 23 #[] _ rfl #[] (by simp) (run_enter Tryd.func23 (by kernel_rfl) (by kernel_rfl)) (.val (.bool true)) rfl rfl ((basedL _ (HT.out.upd (HU0.out.trans hI.upd))).mono fun _ _ h => ret_val h) hK'
      · obtain rfl := Option.some.inj ho
        obtain ⟨vp, hvp, hsp⟩ := hI.haveQ 0 _ 9 (.val (.bool true)) rfl rfl rfl (hdep ⟨0, .data⟩ (by simp) rfl)
        obtain rfl := hsp
        exact hI.pureQ (by kernel_rfl) hls rfl rfl rfl (.bool false) (run_not rfl (eval_of hvp) wn) (.val (.bool false)) rfl rfl rfl hK'
      · exact hi.elim
    · intro an w2 hI
      obtain ⟨vr1_0, hvr1_0, hsr1_0⟩ := hI.haveQ 0 _ 9 (.val (.bool true)) rfl rfl rfl rfl
      obtain rfl := hsr1_0
      obtain ⟨vr1_1, hvr1_1, hsr1_1⟩ := hI.haveQ 1 _ 10 (.val (.bool false)) rfl rfl rfl rfl
      obtain rfl := hsr1_1
      have hupd := hI.upd
      have ha := hI.act [(9, .bool true), (10, .bool false)] (by simp [hvr1_0, hvr1_1]) (by kernel_rfl)
      clear hI hvr1_0 hvr1_1
      subst ha
      simp only [List.foldl_cons, List.foldl_nil, List.setIfInBounds_toArray, List.set_cons_zero, List.set_cons_succ]
      have Bxr0y0_1 := Lib.hid (hupd.blk (show Blk w1 br0_0 23 (numsA .u8 a) from Bxr0y0.out) (fun h => h))
      have Bxr0y1_1 := Lib.hid (hupd.blk (show Blk w1 br0_1 23 (numsA .u8 k) from Bxr0y1.out) (fun h => h))
      have HU1 := Lib.hid (HU0.out.trans hupd)
      clear hupd
      refine wpOps_nil ?_
      refine hK2 _ _ ?_
      clear hK2
      refine wp_cond_false rfl ?_
      refine wp_skip ?_
      refine hK1 _ _ ?_
      clear hK1
      refine wp_seq_k fun K3 hK3 => ?_
      refine wp_region_qS 6 #[true, true, true, true, true, true, false, false] [6, 7] ([.val (.agg (numsA .u8 a)), .like (IsCV 20 RP [some eP] (.int .i64 0)), .like (IsCV 20 RP [some eP] (.int .i64 0)), .like (IsC 20 RP [some eP]), .val (.int .i64 0), .blk ptrTo 41 (Ch 20 RP [none]), .val undef, .val undef] : List SQ) (by kernel_rfl) (by kernel_rfl) (by kernel_rfl) ?_ ?_
      · intro i o listed an wn ho hls hst hun hdep hI hpre K' hK'
        have hi : i = 0 ∨ i = 1 ∨ i = 2 ∨ i = 3 ∨ i = 4 ∨ i = 5 ∨ False := slot_cases (l := [0, 1, 2, 3, 4, 5]) rfl ho hst
        rcases hi with rfl | rfl | rfl | rfl | rfl | rfl | hi
        · obtain rfl := Option.some.inj ho
          have hvp : an.eval (.tmp 2) = ptrTo br0_0 := hI.oldQ (by kernel_rfl) rfl
          exact hI.pureQ (by kernel_rfl) hls rfl rfl rfl _ (run_loadQ rfl hvp wn (hI.upd.blk (show Blk w2 br0_0 23 (numsA .u8 a) from Bxr0y0_1.out) (fun h => h)) Tryd.underlying23 rfl sizeKey (by rw [numsA_size, ha]; omega)) (.val (.agg (numsA .u8 a))) rfl (congrArg Value.agg (extract_all _ 32 (by rw [numsA_size]; exact ha))) rfl hK'
        · obtain rfl := Option.some.inj ho
          obtain ⟨vp, hvp, hsp⟩ := hI.haveQ 0 _ 12 (.val (.agg (numsA .u8 a))) rfl rfl rfl (hdep ⟨0, .data⟩ (by simp) rfl)
          obtain rfl := hsp
          exact hI.callQ (by kernel_rfl) hls rfl rfl rfl 24 #[.tmp 12] _ rfl #[.agg (numsA .u8 a)] (by simp [eval_of hvp]) (run_enter Tryd.func24 (by kernel_rfl) (by kernel_rfl)) (.like (IsCV 20 RP [some eP] (.int .i64 0))) rfl rfl ((decodeT _ (HT.out.upd (HU1.out.trans hI.upd)) ha da hk).mono fun _ _ h => h.sq) hK'
        · obtain rfl := Option.some.inj ho
          obtain ⟨vp, hvp, ap, rfl, hCp⟩ := hI.haveQ 1 _ 13 (.like (IsCV 20 RP [some eP] (.int .i64 0))) rfl rfl rfl (hdep ⟨1, .data⟩ (by simp) rfl)
          exact hI.pureQ (by kernel_rfl) hls rfl rfl rfl _ (run_moveQ (.inl rfl) (eval_of hvp) wn) (.like (IsCV 20 RP [some eP] (.int .i64 0))) rfl ⟨_, rfl, hCp⟩ rfl hK'
        · obtain rfl := Option.some.inj ho
          obtain ⟨vp, hvp, ap, rfl, hCp⟩ := hI.haveQ 2 _ 11 (.like (IsCV 20 RP [some eP] (.int .i64 0))) rfl rfl rfl (hdep ⟨2, .data⟩ (by simp) rfl)
          exact hI.pureQ (by kernel_rfl) hls rfl rfl rfl _ (run_extractQ rfl (eval_of hvp) rfl wn) (.like (IsC 20 RP [some eP])) rfl ⟨_, rfl, hCp⟩ rfl hK'
        · obtain rfl := Option.some.inj ho
          obtain ⟨vp, hvp, ap, rfl, hCp⟩ := hI.haveQ 2 _ 11 (.like (IsCV 20 RP [some eP] (.int .i64 0))) rfl rfl rfl (hdep ⟨2, .data⟩ (by simp) rfl)
          exact hI.pureQ (by kernel_rfl) hls rfl rfl rfl (.int .i64 0) (run_extractQ rfl (eval_of hvp) rfl wn) (.val (.int .i64 0)) rfl rfl rfl hK'
        · obtain rfl := Option.some.inj ho
          exact hI.newQ (by kernel_rfl) hls (Nat.le_refl _) (newsQ_spec (l := [5]) (by kernel_rfl) ⟨⟨_, _, rfl⟩, trivial⟩) rfl rfl rfl 41 zPt _ (run_allocQ rfl zPt_run wn) rfl zPt_p hK'
        · exact hi.elim
      · intro an w3 hI
        obtain ⟨vr2_0, hvr2_0, hsr2_0⟩ := hI.haveQ 0 _ 12 (.val (.agg (numsA .u8 a))) rfl rfl rfl rfl
        obtain rfl := hsr2_0
        obtain ⟨vr2_1, hvr2_1, ar2_1, rfl, hCr2_1⟩ := hI.haveQ 1 _ 13 (.like (IsCV 20 RP [some eP] (.int .i64 0))) rfl rfl rfl rfl
        obtain ⟨vr2_2, hvr2_2, ar2_2, rfl, hCr2_2⟩ := hI.haveQ 2 _ 11 (.like (IsCV 20 RP [some eP] (.int .i64 0))) rfl rfl rfl rfl
        obtain ⟨vr2_3, hvr2_3, ar2_3, rfl, hCr2_3⟩ := hI.haveQ 3 _ 14 (.like (IsC 20 RP [some eP])) rfl rfl rfl rfl
        obtain ⟨vr2_4, hvr2_4, hsr2_4⟩ := hI.haveQ 4 _ 15 (.val (.int .i64 0)) rfl rfl rfl rfl
        obtain rfl := hsr2_4
        obtain ⟨vr2_5, hvr2_5, br2_5, zr2_5, rfl, hnr2_5, hbr2_5, hzr2_5⟩ := hI.haveQ 5 _ 5 (.blk ptrTo 41 (Ch 20 RP [none])) rfl rfl rfl rfl
        have hupd := hI.upd
        have ha := hI.act [(12, .agg (numsA .u8 a)), (13, .tuple #[.agg ar2_1, .int .i64 0]), (11, .tuple #[.agg ar2_2, .int .i64 0]), (14, .agg ar2_3), (15, .int .i64 0), (5, ptrTo br2_5)] (by simp [hvr2_0, hvr2_1, hvr2_2, hvr2_3, hvr2_4, hvr2_5]) (by kernel_rfl)
        clear hI hvr2_0 hvr2_1 hvr2_2 hvr2_3 hvr2_4 hvr2_5
        subst ha
        simp only [List.foldl_cons, List.foldl_nil, List.setIfInBounds_toArray, List.set_cons_zero, List.set_cons_succ]
        have hner2_5_Bxr0y0_1 := Lib.hid (show br2_5 ≠ br0_0 from Nat.ne_of_gt (Nat.lt_of_lt_of_le Bxr0y0_1.out.lt hnr2_5))
        have hner2_5_Bxr0y1_1 := Lib.hid (show br2_5 ≠ br0_1 from Nat.ne_of_gt (Nat.lt_of_lt_of_le Bxr0y1_1.out.lt hnr2_5))
        have hger2_5 := Lib.hid (Nat.le_trans HU1.out.size hnr2_5)
        have Bxr0y0_2 := Lib.hid (hupd.blk (show Blk w2 br0_0 23 (numsA .u8 a) from Bxr0y0_1.out) (fun h => h))
        have Bxr0y1_2 := Lib.hid (hupd.blk (show Blk w2 br0_1 23 (numsA .u8 k) from Bxr0y1_1.out) (fun h => h))
        have Bxr2y5 := Lib.hid hbr2_5
        have HU2 := Lib.hid (HU1.out.trans hupd)
        clear hupd
        refine wpOps_storeQ 6 rfl rfl rfl 41 (.tmp 5) (.tmp 14) rfl br2_5 0 20 rfl ar2_3 rfl 41 zr2_5 Bxr2y5.out szPt hCr2_3.size (by rw [hzr2_5.size]; exact Nat.le_of_ble_eq_true rfl) hCr2_3.one' ?_
        intro ws2_0 hs2_0 hus2_0
        rw [splice_all _ _ 20 hzr2_5.size hCr2_3.size] at hs2_0
        have Bxr0y0_s2_0 := Lib.hid (hus2_0.blk Bxr0y0_2.out (fun e => hner2_5_Bxr0y0_1.out e.symm))
        have Bxr0y1_s2_0 := Lib.hid (hus2_0.blk Bxr0y1_2.out (fun e => hner2_5_Bxr0y1_1.out e.symm))
        have Bxr2y5_s2_0 := Lib.hid hs2_0
        have HU2_0 := Lib.hid (HU2.out.step hus2_0 (fun i hi h => absurd hi (Nat.not_lt.2 (h.symm ▸ hger2_5.out))))
        clear hs2_0 hus2_0
        refine wpOps_pureQ 7 rfl rfl 6 rfl (.int .i64 0) (run_moveQ (x := .tmp 15) (v := .int .i64 0) (.inr rfl) rfl _) ?_
        simp only [List.setIfInBounds_toArray, List.set_cons_zero, List.set_cons_succ]
        refine wpOps_nil ?_
        refine hK3 _ _ ?_
        clear hK3
        refine wp_seq_k fun K4 hK4 => ?_
        refine wp_seq_k fun K5 hK5 => ?_
        refine wp_region_qS 2 #[true, true] [] ([.val (.int .i64 0), .val (.bool false)] : List SQ) (by kernel_rfl) (by kernel_rfl) (by kernel_rfl) ?_ ?_
        · intro i o listed an wn ho hls hst hun hdep hI hpre K' hK'
          have hi : i = 0 ∨ i = 1 ∨ False := slot_cases (l := [0, 1]) rfl ho hst
          rcases hi with rfl | rfl | hi
          · obtain rfl := Option.some.inj ho
            have hvp : an.eval (.tmp 6) = .int .i64 0 := hI.oldQ (by kernel_rfl) rfl
            exact hI.pureQ (by kernel_rfl) hls rfl rfl rfl (.int .i64 0) (run_moveQ (.inl rfl) hvp wn) (.val (.int .i64 0)) rfl rfl rfl hK'
          · obtain rfl := Option.some.inj ho
            obtain ⟨vp, hvp, hsp⟩ := hI.haveQ 0 _ 16 (.val (.int .i64 0)) rfl rfl rfl (hdep ⟨0, .data⟩ (by simp) rfl)
            obtain rfl := hsp
            exact hI.pureQ (by kernel_rfl) hls rfl rfl rfl (.bool false) (run_neq rfl (eval_of hvp) rfl (ne_of_eqB (show decide ((0 : Int) = 0) = true by decide)) wn) (.val (.bool false)) rfl rfl rfl hK'
          · exact hi.elim
        · intro an w4 hI
          obtain ⟨vr3_0, hvr3_0, hsr3_0⟩ := hI.haveQ 0 _ 16 (.val (.int .i64 0)) rfl rfl rfl rfl
          obtain rfl := hsr3_0
          obtain ⟨vr3_1, hvr3_1, hsr3_1⟩ := hI.haveQ 1 _ 17 (.val (.bool false)) rfl rfl rfl rfl
          obtain rfl := hsr3_1
          have hupd := hI.upd
          have ha := hI.act [(16, .int .i64 0), (17, .bool false)] (by simp [hvr3_0, hvr3_1]) (by kernel_rfl)
          clear hI hvr3_0 hvr3_1
          subst ha
          simp only [List.foldl_cons, List.foldl_nil, List.setIfInBounds_toArray, List.set_cons_zero, List.set_cons_succ]
          have Bxr0y0_3 := Lib.hid (hupd.blk (show Blk ws2_0 br0_0 23 (numsA .u8 a) from Bxr0y0_s2_0.out) (fun h => h))
          have Bxr0y1_3 := Lib.hid (hupd.blk (show Blk ws2_0 br0_1 23 (numsA .u8 k) from Bxr0y1_s2_0.out) (fun h => h))
          have Bxr2y5_3 := Lib.hid (hupd.blk (show Blk ws2_0 br2_5 41 ar2_3 from Bxr2y5_s2_0.out) (fun h => h))
          have HU3 := Lib.hid (HU2_0.out.trans hupd)
          clear hupd
          refine wpOps_nil ?_
          refine hK5 _ _ ?_
          clear hK5
          refine wp_cond_false rfl ?_
          refine wp_skip ?_
          refine hK4 _ _ ?_
          clear hK4
          refine wp_seq_k fun K6 hK6 => ?_
          refine wp_seq_k fun K7 hK7 => ?_
          refine wp_region_q #[true, true, true, true, true, true, true, true] ([.val (.agg ar2_3), .val (.bool true), .val (.agg ar2_3), .val (.agg (numsA .u8 keyT0)), .like (IsC 20 RP [some (eP.times (expo keyT0))]), .like (IsC 20 RP [some EP.nil]), .val (.bool true), .val (.bool false)] : List SQ) (by kernel_rfl) (by kernel_rfl) (by kernel_rfl) ?_ ?_
          · intro i o listed an wn ho hls hst hun hdep hI K' hK'
            have hi : i = 0 ∨ i = 1 ∨ i = 2 ∨ i = 3 ∨ i = 4 ∨ i = 5 ∨ i = 6 ∨ i = 7 ∨ False := slot_cases (l := [0, 1, 2, 3, 4, 5, 6, 7]) rfl ho hst
            rcases hi with rfl | rfl | rfl | rfl | rfl | rfl | rfl | rfl | hi
            · obtain rfl := Option.some.inj ho
              have hvp : an.eval (.tmp 5) = ptrTo br2_5 := hI.oldQ (by kernel_rfl) rfl
              exact hI.pureQ (by kernel_rfl) hls rfl rfl rfl _ (run_loadQ rfl hvp wn (hI.upd.blk (show Blk w4.drew br2_5 41 ar2_3 from Bxr2y5_3.out) (fun h => h)) Tryd.underlying41 rfl szPt (by rw [hCr2_3.size]; exact Nat.le_of_ble_eq_true rfl)) (.val (.agg ar2_3)) rfl (congrArg Value.agg (extract_all _ 20 hCr2_3.size)) rfl hK'
            · obtain rfl := Option.some.inj ho
              obtain ⟨vp, hvp, hsp⟩ := hI.haveQ 0 _ 18 (.val (.agg ar2_3)) rfl rfl rfl (hdep ⟨0, .data⟩ (by simp) rfl)
              obtain rfl := hsp
              exact hI.callQ (by kernel_rfl) hls rfl rfl rfl 38 #[.tmp 18] _ rfl #[.agg ar2_3] (by simp [eval_of hvp]) (run_enter Tryd.func38 (by kernel_rfl) (by kernel_rfl)) (.val (.bool true)) rfl rfl ((tinyR _ (HT.out.upd (HU3.out.drew.trans hI.upd)) hCr2_3).mono fun _ _ h => ret_val (ret_b h hb)) hK'
            · obtain rfl := Option.some.inj ho
              have hvp : an.eval (.tmp 5) = ptrTo br2_5 := hI.oldQ (by kernel_rfl) rfl
              exact hI.pureQ (by kernel_rfl) hls rfl rfl rfl _ (run_loadQ rfl hvp wn (hI.upd.blk (show Blk w4.drew br2_5 41 ar2_3 from Bxr2y5_3.out) (fun h => h)) Tryd.underlying41 rfl szPt (by rw [hCr2_3.size]; exact Nat.le_of_ble_eq_true rfl)) (.val (.agg ar2_3)) rfl (congrArg Value.agg (extract_all _ 20 hCr2_3.size)) rfl hK'
            · obtain rfl := Option.some.inj ho
              exact hI.pureQ (by kernel_rfl) hls rfl rfl rfl (.agg (numsA .u8 keyT0)) (keyT0_run rfl wn) (.val (.agg (numsA .u8 keyT0))) rfl rfl rfl hK'
            · obtain rfl := Option.some.inj ho
              obtain ⟨vp, hvp, hsp⟩ := hI.haveQ 2 _ 20 (.val (.agg ar2_3)) rfl rfl rfl (hdep ⟨2, .data⟩ (by simp) rfl)
              obtain rfl := hsp
              obtain ⟨vq, hvq, hsq⟩ := hI.haveQ 3 _ 21 (.val (.agg (numsA .u8 keyT0))) rfl rfl rfl (hdep ⟨3, .data⟩ (by simp) rfl)
              obtain rfl := hsq
              exact hI.callQ (by kernel_rfl) hls rfl rfl rfl 36 #[.tmp 20, .tmp 21] _ rfl #[.agg ar2_3, .agg (numsA .u8 keyT0)] (by simp [eval_of hvp, eval_of hvq]) (run_enter Tryd.func36 (by kernel_rfl) (by kernel_rfl)) (.like (IsC 20 RP [some (eP.times (expo keyT0))])) rfl rfl ((multiplyR _ (HT.out.upd (HU3.out.drew.trans hI.upd)) hCr2_3 keyT0_length keyT0_digs).mono fun _ _ h => h.sq) hK'
            · obtain rfl := Option.some.inj ho
              exact hI.callQ (by kernel_rfl) hls rfl rfl rfl 33 #[] _ rfl #[] (by simp) (run_enter Tryd.func33 (by kernel_rfl) (by kernel_rfl)) (.like (IsC 20 RP [some EP.nil])) rfl rfl ((zeroR _ ).mono fun _ _ h => h.sq) hK'
            · obtain rfl := Option.some.inj ho
              obtain ⟨vp, hvp, ap, rfl, hCp⟩ := hI.haveQ 4 _ 22 (.like (IsC 20 RP [some (eP.times (expo keyT0))])) rfl rfl rfl (hdep ⟨4, .data⟩ (by simp) rfl)
              obtain ⟨vq, hvq, aq, rfl, hCq⟩ := hI.haveQ 5 _ 23 (.like (IsC 20 RP [some EP.nil])) rfl rfl rfl (hdep ⟨5, .data⟩ (by simp) rfl)
              exact hI.callQ (by kernel_rfl) hls rfl rfl rfl 31 #[.tmp 22, .tmp 23] _ rfl #[.agg ap, .agg aq] (by simp [eval_of hvp, eval_of hvq]) (run_enter Tryd.func31 (by kernel_rfl) (by kernel_rfl)) (.val (.bool true)) rfl rfl ((equalR _ hCp hCq).mono fun _ _ h => ret_val (ret_b h (show edEq (eP.times 8) EP.nil = true from hb))) hK'
            · obtain rfl := Option.some.inj ho
              obtain ⟨vp, hvp, hsp⟩ := hI.haveQ 1 _ 19 (.val (.bool true)) rfl rfl rfl (hdep ⟨1, .data⟩ (by simp) rfl)
              obtain rfl := hsp
              obtain ⟨vq, hvq, hsq⟩ := hI.haveQ 6 _ 24 (.val (.bool true)) rfl rfl rfl (hdep ⟨6, .data⟩ (by simp) rfl)
              obtain rfl := hsq
              exact hI.pureQ (by kernel_rfl) hls rfl rfl rfl (.bool false) (run_neqB rfl (eval_of hvp) (eval_of hvq) rfl wn) (.val (.bool false)) rfl rfl rfl hK'
            · exact hi.elim
          · intro fuel an w5 hf hI
            obtain ⟨vr4_0, hvr4_0, hsr4_0⟩ := hI.haveQ 0 _ 18 (.val (.agg ar2_3)) rfl rfl rfl rfl
            obtain rfl := hsr4_0
            obtain ⟨vr4_1, hvr4_1, hsr4_1⟩ := hI.haveQ 1 _ 19 (.val (.bool true)) rfl rfl rfl rfl
            obtain rfl := hsr4_1
            obtain ⟨vr4_2, hvr4_2, hsr4_2⟩ := hI.haveQ 2 _ 20 (.val (.agg ar2_3)) rfl rfl rfl rfl
            obtain rfl := hsr4_2
            obtain ⟨vr4_3, hvr4_3, hsr4_3⟩ := hI.haveQ 3 _ 21 (.val (.agg (numsA .u8 keyT0))) rfl rfl rfl rfl
            obtain rfl := hsr4_3
            obtain ⟨vr4_4, hvr4_4, ar4_4, rfl, hCr4_4⟩ := hI.haveQ 4 _ 22 (.like (IsC 20 RP [some (eP.times (expo keyT0))])) rfl rfl rfl rfl
            obtain ⟨vr4_5, hvr4_5, ar4_5, rfl, hCr4_5⟩ := hI.haveQ 5 _ 23 (.like (IsC 20 RP [some EP.nil])) rfl rfl rfl rfl
            obtain ⟨vr4_6, hvr4_6, hsr4_6⟩ := hI.haveQ 6 _ 24 (.val (.bool true)) rfl rfl rfl rfl
            obtain rfl := hsr4_6
            obtain ⟨vr4_7, hvr4_7, hsr4_7⟩ := hI.haveQ 7 _ 25 (.val (.bool false)) rfl rfl rfl rfl
            obtain rfl := hsr4_7
            have hupd := hI.upd
            have ha := hI.act [(18, .agg ar2_3), (19, .bool true), (20, .agg ar2_3), (21, .agg (numsA .u8 keyT0)), (22, .agg ar4_4), (23, .agg ar4_5), (24, .bool true), (25, .bool false)] (by simp [hvr4_0, hvr4_1, hvr4_2, hvr4_3, hvr4_4, hvr4_5, hvr4_6, hvr4_7]) (by kernel_rfl)
            clear hI hvr4_0 hvr4_1 hvr4_2 hvr4_3 hvr4_4 hvr4_5 hvr4_6 hvr4_7
            subst ha
            simp only [List.foldl_cons, List.foldl_nil, List.setIfInBounds_toArray, List.set_cons_zero, List.set_cons_succ]
            have Bxr0y0_4 := Lib.hid (hupd.blk (show Blk w4.drew br0_0 23 (numsA .u8 a) from Bxr0y0_3.out) (fun h => h))
            have Bxr0y1_4 := Lib.hid (hupd.blk (show Blk w4.drew br0_1 23 (numsA .u8 k) from Bxr0y1_3.out) (fun h => h))
            have Bxr2y5_4 := Lib.hid (hupd.blk (show Blk w4.drew br2_5 41 ar2_3 from Bxr2y5_3.out) (fun h => h))
            have HU4 := Lib.hid (HU3.out.drew.trans hupd)
            clear hupd
            refine wpAny_done (by kernel_rfl) ?_ _
            refine hK7 _ _ ?_
            clear hK7
            refine wp_cond_false rfl ?_
            refine wp_skip ?_
            refine hK6 _ _ ?_
            clear hK6
            refine wp_seq_k fun K8 hK8 => ?_
            refine wp_region_q #[true, true, true, true, false] ([.like (IsC 20 RP [some eB]), .val (.agg (numsA .u8 k)), .like (IsC 20 RP [some (eB.times (expo k))]), .blk ptrTo 41 (Ch 20 RP [none]), .val undef] : List SQ) (by kernel_rfl) (by kernel_rfl) (by kernel_rfl) ?_ ?_
            · intro i o listed an wn ho hls hst hun hdep hI K' hK'
              have hi : i = 0 ∨ i = 1 ∨ i = 2 ∨ i = 3 ∨ False := slot_cases (l := [0, 1, 2, 3]) rfl ho hst
              rcases hi with rfl | rfl | rfl | rfl | hi
              · obtain rfl := Option.some.inj ho
                exact hI.callQ (by kernel_rfl) hls rfl rfl rfl 34 #[] _ rfl #[] (by simp) (run_enter Tryd.func34 (by kernel_rfl) (by kernel_rfl)) (.like (IsC 20 RP [some eB])) rfl rfl ((baseR _ ).mono fun _ _ h => h.sq) hK'
              · obtain rfl := Option.some.inj ho
                have hvp : an.eval (.tmp 3) = ptrTo br0_1 := hI.oldQ (by kernel_rfl) rfl
                exact hI.pureQ (by kernel_rfl) hls rfl rfl rfl _ (run_loadQ rfl hvp wn (hI.upd.blk (show Blk w5.drew br0_1 23 (numsA .u8 k) from Bxr0y1_4.out) (fun h => h)) Tryd.underlying23 rfl sizeKey (by rw [numsA_size, hl]; omega)) (.val (.agg (numsA .u8 k))) rfl (congrArg Value.agg (extract_all _ 32 (by rw [numsA_size]; exact hl))) rfl hK'
              · obtain rfl := Option.some.inj ho
                obtain ⟨vp, hvp, ap, rfl, hCp⟩ := hI.haveQ 0 _ 26 (.like (IsC 20 RP [some eB])) rfl rfl rfl (hdep ⟨0, .data⟩ (by simp) rfl)
                obtain ⟨vq, hvq, hsq⟩ := hI.haveQ 1 _ 27 (.val (.agg (numsA .u8 k))) rfl rfl rfl (hdep ⟨1, .data⟩ (by simp) rfl)
                obtain rfl := hsq
                exact hI.callQ (by kernel_rfl) hls rfl rfl rfl 36 #[.tmp 26, .tmp 27] _ rfl #[.agg ap, .agg (numsA .u8 k)] (by simp [eval_of hvp, eval_of hvq]) (run_enter Tryd.func36 (by kernel_rfl) (by kernel_rfl)) (.like (IsC 20 RP [some (eB.times (expo k))])) rfl rfl ((multiplyR _ (HT.out.upd (HU4.out.drew.trans hI.upd)) hCp hl hd).mono fun _ _ h => h.sq) hK'
              · obtain rfl := Option.some.inj ho
                exact hI.newQ (by kernel_rfl) hls (Nat.le_refl _) (newsQ_spec (l := [3]) (by kernel_rfl) ⟨⟨_, _, rfl⟩, trivial⟩) rfl rfl rfl 41 zPt _ (run_allocQ rfl zPt_run wn) rfl zPt_p hK'
              · exact hi.elim
            · intro fuel an w6 hf hI
              obtain ⟨vr5_0, hvr5_0, ar5_0, rfl, hCr5_0⟩ := hI.haveQ 0 _ 26 (.like (IsC 20 RP [some eB])) rfl rfl rfl rfl
              obtain ⟨vr5_1, hvr5_1, hsr5_1⟩ := hI.haveQ 1 _ 27 (.val (.agg (numsA .u8 k))) rfl rfl rfl rfl
              obtain rfl := hsr5_1
              obtain ⟨vr5_2, hvr5_2, ar5_2, rfl, hCr5_2⟩ := hI.haveQ 2 _ 28 (.like (IsC 20 RP [some (eB.times (expo k))])) rfl rfl rfl rfl
              obtain ⟨vr5_3, hvr5_3, br5_3, zr5_3, rfl, hnr5_3, hbr5_3, hzr5_3⟩ := hI.haveQ 3 _ 7 (.blk ptrTo 41 (Ch 20 RP [none])) rfl rfl rfl rfl
              have hupd := hI.upd
              have ha := hI.act [(26, .agg ar5_0), (27, .agg (numsA .u8 k)), (28, .agg ar5_2), (7, ptrTo br5_3)] (by simp [hvr5_0, hvr5_1, hvr5_2, hvr5_3]) (by kernel_rfl)
              clear hI hvr5_0 hvr5_1 hvr5_2 hvr5_3
              subst ha
              simp only [List.foldl_cons, List.foldl_nil, List.setIfInBounds_toArray, List.set_cons_zero, List.set_cons_succ]
              have hner5_3_Bxr0y0_4 := Lib.hid (show br5_3 ≠ br0_0 from Nat.ne_of_gt (Nat.lt_of_lt_of_le Bxr0y0_4.out.lt hnr5_3))
              have hner5_3_Bxr0y1_4 := Lib.hid (show br5_3 ≠ br0_1 from Nat.ne_of_gt (Nat.lt_of_lt_of_le Bxr0y1_4.out.lt hnr5_3))
              have hner5_3_Bxr2y5_4 := Lib.hid (show br5_3 ≠ br2_5 from Nat.ne_of_gt (Nat.lt_of_lt_of_le Bxr2y5_4.out.lt hnr5_3))
              have hger5_3 := Lib.hid (Nat.le_trans HU4.out.size hnr5_3)
              have Bxr0y0_5 := Lib.hid (hupd.blk (show Blk w5.drew br0_0 23 (numsA .u8 a) from Bxr0y0_4.out) (fun h => h))
              have Bxr0y1_5 := Lib.hid (hupd.blk (show Blk w5.drew br0_1 23 (numsA .u8 k) from Bxr0y1_4.out) (fun h => h))
              have Bxr2y5_5 := Lib.hid (hupd.blk (show Blk w5.drew br2_5 41 ar2_3 from Bxr2y5_4.out) (fun h => h))
              have Bxr5y3 := Lib.hid hbr5_3
              have HU5 := Lib.hid (HU4.out.drew.trans hupd)
              clear hupd
              have hf0 : left #[true, true, true, true, false] 5 = 1 := by kernel_rfl
              have hf1 : left #[true, true, true, true, false] 5 ≤ fuel := hf
              obtain ⟨fu, rfl⟩ : ∃ fu, fuel = fu + 1 := ⟨fuel - 1, by omega⟩
              clear hf hf0 hf1
              refine wpAny_storeQ 4 rfl (by kernel_rfl) rfl rfl 41 (.tmp 7) (.tmp 28) rfl br5_3 0 20 rfl ar5_2 rfl 41 zr5_3 Bxr5y3.out szPt hCr5_2.size (by rw [hzr5_3.size]; exact Nat.le_of_ble_eq_true rfl) hCr5_2.one' ?_
              intro ws5_0 hs5_0 hus5_0
              rw [splice_all _ _ 20 hzr5_3.size hCr5_2.size] at hs5_0
              have Bxr0y0_s5_0 := Lib.hid (hus5_0.blk Bxr0y0_5.out (fun e => hner5_3_Bxr0y0_4.out e.symm))
              have Bxr0y1_s5_0 := Lib.hid (hus5_0.blk Bxr0y1_5.out (fun e => hner5_3_Bxr0y1_4.out e.symm))
              have Bxr2y5_s5_0 := Lib.hid (hus5_0.blk Bxr2y5_5.out (fun e => hner5_3_Bxr2y5_4.out e.symm))
              have Bxr5y3_s5_0 := Lib.hid hs5_0
              have HU5_0 := Lib.hid (HU5.out.step hus5_0 (fun i hi h => absurd hi (Nat.not_lt.2 (h.symm ▸ hger5_3.out))))
              clear hs5_0 hus5_0
              refine wpAny_done (by kernel_rfl) ?_ _
              refine hK8 _ _ ?_
              clear hK8
              refine wp_seq_k fun K9 hK9 => ?_
              refine wp_region_qS 7 #[true, true, true, true, true, true, true, false] [7] ([.val (.agg ar2_3), .val (.agg ar5_2), .blk (fun b => .slice (some ⟨b, 0, none⟩) 2 2) 41 (Ch 20 RP [some eP, some (eB.times (expo k))]), .like (IsC 20 RP [some (eP.plus (eB.times (expo k)))]), .val (.agg (numsA .u8 keyT0)), .like (IsC 20 RP [some ((eP.plus (eB.times (expo k))).times (expo keyT0))]), .blk ptrTo 41 (Ch 20 RP [none]), .val undef] : List SQ) (by kernel_rfl) (by kernel_rfl) (by kernel_rfl) ?_ ?_
              · intro i o listed an wn ho hls hst hun hdep hI hpre K' hK'
                have hi : i = 0 ∨ i = 1 ∨ i = 2 ∨ i = 3 ∨ i = 4 ∨ i = 5 ∨ i = 6 ∨ False := slot_cases (l := [0, 1, 2, 3, 4, 5, 6]) rfl ho hst
                rcases hi with rfl | rfl | rfl | rfl | rfl | rfl | rfl | hi
                · obtain rfl := Option.some.inj ho
                  have hvp : an.eval (.tmp 5) = ptrTo br2_5 := hI.oldQ (by kernel_rfl) rfl
                  exact hI.pureQ (by kernel_rfl) hls rfl rfl rfl _ (run_loadQ rfl hvp wn (hI.upd.blk (show Blk ws5_0 br2_5 41 ar2_3 from Bxr2y5_s5_0.out) (fun h => h)) Tryd.underlying41 rfl szPt (by rw [hCr2_3.size]; exact Nat.le_of_ble_eq_true rfl)) (.val (.agg ar2_3)) rfl (congrArg Value.agg (extract_all _ 20 hCr2_3.size)) rfl hK'
                · obtain rfl := Option.some.inj ho
                  have hvp : an.eval (.tmp 7) = ptrTo br5_3 := hI.oldQ (by kernel_rfl) rfl
                  exact hI.pureQ (by kernel_rfl) hls rfl rfl rfl _ (run_loadQ rfl hvp wn (hI.upd.blk (show Blk ws5_0 br5_3 41 ar5_2 from Bxr5y3_s5_0.out) (fun h => h)) Tryd.underlying41 rfl szPt (by rw [hCr5_2.size]; exact Nat.le_of_ble_eq_true rfl)) (.val (.agg ar5_2)) rfl (congrArg Value.agg (extract_all _ 20 hCr5_2.size)) rfl hK'
                · obtain rfl := Option.some.inj ho
                  obtain ⟨vp, hvp, hsp⟩ := hI.haveQ 0 _ 29 (.val (.agg ar2_3)) rfl rfl rfl (hdep ⟨0, .data⟩ (by simp) rfl)
                  obtain rfl := hsp
                  obtain ⟨vq, hvq, hsq⟩ := hI.haveQ 1 _ 30 (.val (.agg ar5_2)) rfl rfl rfl (hdep ⟨1, .data⟩ (by simp) rfl)
                  obtain rfl := hsq
                  exact hI.rowQ (by kernel_rfl) hls (Nat.le_refl _) rfl rfl rfl _ _ _ _ (run_pts2 rfl (eval_of hvp) (eval_of hvq) hCr2_3.size hCr5_2.size wn) rfl (hCr2_3.cat hCr5_2) rfl hK'
                · obtain rfl := Option.some.inj ho
                  obtain ⟨vp, hvp, bp, zp, rfl, hnp, hbp, hzp⟩ := hI.haveQ 2 _ 31 (.blk (fun b => .slice (some ⟨b, 0, none⟩) 2 2) 41 (Ch 20 RP [some eP, some (eB.times (expo k))])) rfl rfl rfl (hdep ⟨2, .data⟩ (by simp) rfl)
                  exact hI.callQ (by kernel_rfl) hls rfl rfl rfl 28 #[.tmp 31] _ rfl #[.slice (some ⟨bp, 0, none⟩) 2 2] (by simp [eval_of hvp]) (run_enter Tryd.func28 (by kernel_rfl) (by kernel_rfl)) (.like (IsC 20 RP [some (eP.plus (eB.times (expo k)))])) rfl rfl ((addR2 _ (HT.out.upd (HU5_0.out.trans hI.upd)) hbp hzp).mono fun _ _ h => h.sq) hK'
                · obtain rfl := Option.some.inj ho
                  exact hI.pureQ (by kernel_rfl) hls rfl rfl rfl (.agg (numsA .u8 keyT0)) (keyT0_run rfl wn) (.val (.agg (numsA .u8 keyT0))) rfl rfl rfl hK'
                · obtain rfl := Option.some.inj ho
                  obtain ⟨vp, hvp, ap, rfl, hCp⟩ := hI.haveQ 3 _ 32 (.like (IsC 20 RP [some (eP.plus (eB.times (expo k)))])) rfl rfl rfl (hdep ⟨3, .data⟩ (by simp) rfl)
                  obtain ⟨vq, hvq, hsq⟩ := hI.haveQ 4 _ 33 (.val (.agg (numsA .u8 keyT0))) rfl rfl rfl (hdep ⟨4, .data⟩ (by simp) rfl)
                  obtain rfl := hsq
                  exact hI.callQ (by kernel_rfl) hls rfl rfl rfl 36 #[.tmp 32, .tmp 33] _ rfl #[.agg ap, .agg (numsA .u8 keyT0)] (by simp [eval_of hvp, eval_of hvq]) (run_enter Tryd.func36 (by kernel_rfl) (by kernel_rfl)) (.like (IsC 20 RP [some ((eP.plus (eB.times (expo k))).times (expo keyT0))])) rfl rfl ((multiplyR _ (HT.out.upd (HU5_0.out.trans hI.upd)) hCp keyT0_length keyT0_digs).mono fun _ _ h => h.sq) hK'
                · obtain rfl := Option.some.inj ho
                  exact hI.newQ (by kernel_rfl) hls (Nat.le_refl _) (newsQ_spec (l := [6]) (by kernel_rfl) ⟨⟨_, _, rfl⟩, trivial⟩) rfl rfl rfl 41 zPt _ (run_allocQ rfl zPt_run wn) rfl zPt_p hK'
                · exact hi.elim
              · intro an w7 hI
                obtain ⟨vr6_0, hvr6_0, hsr6_0⟩ := hI.haveQ 0 _ 29 (.val (.agg ar2_3)) rfl rfl rfl rfl
                obtain rfl := hsr6_0
                obtain ⟨vr6_1, hvr6_1, hsr6_1⟩ := hI.haveQ 1 _ 30 (.val (.agg ar5_2)) rfl rfl rfl rfl
                obtain rfl := hsr6_1
                obtain ⟨vr6_2, hvr6_2, br6_2, zr6_2, rfl, hnr6_2, hbr6_2, hzr6_2⟩ := hI.haveQ 2 _ 31 (.blk (fun b => .slice (some ⟨b, 0, none⟩) 2 2) 41 (Ch 20 RP [some eP, some (eB.times (expo k))])) rfl rfl rfl rfl
                obtain ⟨vr6_3, hvr6_3, ar6_3, rfl, hCr6_3⟩ := hI.haveQ 3 _ 32 (.like (IsC 20 RP [some (eP.plus (eB.times (expo k)))])) rfl rfl rfl rfl
                obtain ⟨vr6_4, hvr6_4, hsr6_4⟩ := hI.haveQ 4 _ 33 (.val (.agg (numsA .u8 keyT0))) rfl rfl rfl rfl
                obtain rfl := hsr6_4
                obtain ⟨vr6_5, hvr6_5, ar6_5, rfl, hCr6_5⟩ := hI.haveQ 5 _ 34 (.like (IsC 20 RP [some ((eP.plus (eB.times (expo k))).times (expo keyT0))])) rfl rfl rfl rfl
                obtain ⟨vr6_6, hvr6_6, br6_6, zr6_6, rfl, hnr6_6, hbr6_6, hzr6_6⟩ := hI.haveQ 6 _ 8 (.blk ptrTo 41 (Ch 20 RP [none])) rfl rfl rfl rfl
                have hupd := hI.upd
                have ha := hI.act [(29, .agg ar2_3), (30, .agg ar5_2), (31, .slice (some ⟨br6_2, 0, none⟩) 2 2), (32, .agg ar6_3), (33, .agg (numsA .u8 keyT0)), (34, .agg ar6_5), (8, ptrTo br6_6)] (by simp [hvr6_0, hvr6_1, hvr6_2, hvr6_3, hvr6_4, hvr6_5, hvr6_6]) (by kernel_rfl)
                clear hI hvr6_0 hvr6_1 hvr6_2 hvr6_3 hvr6_4 hvr6_5 hvr6_6
                subst ha
                simp only [List.foldl_cons, List.foldl_nil, List.setIfInBounds_toArray, List.set_cons_zero, List.set_cons_succ]
                have hner6_6_Bxr0y0_s5_0 := Lib.hid (show br6_6 ≠ br0_0 from Nat.ne_of_gt (Nat.lt_of_lt_of_le Bxr0y0_s5_0.out.lt hnr6_6))
                have hner6_6_Bxr0y1_s5_0 := Lib.hid (show br6_6 ≠ br0_1 from Nat.ne_of_gt (Nat.lt_of_lt_of_le Bxr0y1_s5_0.out.lt hnr6_6))
                have hner6_6_Bxr2y5_s5_0 := Lib.hid (show br6_6 ≠ br2_5 from Nat.ne_of_gt (Nat.lt_of_lt_of_le Bxr2y5_s5_0.out.lt hnr6_6))
                have hner6_6_Bxr5y3_s5_0 := Lib.hid (show br6_6 ≠ br5_3 from Nat.ne_of_gt (Nat.lt_of_lt_of_le Bxr5y3_s5_0.out.lt hnr6_6))
                have hger6_6 := Lib.hid (Nat.le_trans HU5_0.out.size hnr6_6)
                have Bxr0y0_6 := Lib.hid (hupd.blk (show Blk ws5_0 br0_0 23 (numsA .u8 a) from Bxr0y0_s5_0.out) (fun h => h))
                have Bxr0y1_6 := Lib.hid (hupd.blk (show Blk ws5_0 br0_1 23 (numsA .u8 k) from Bxr0y1_s5_0.out) (fun h => h))
                have Bxr2y5_6 := Lib.hid (hupd.blk (show Blk ws5_0 br2_5 41 ar2_3 from Bxr2y5_s5_0.out) (fun h => h))
                have Bxr5y3_6 := Lib.hid (hupd.blk (show Blk ws5_0 br5_3 41 ar5_2 from Bxr5y3_s5_0.out) (fun h => h))
                have Bxr6y6 := Lib.hid hbr6_6
                have HU6 := Lib.hid (HU5_0.out.trans hupd)
                clear hupd
                refine wpOps_storeQ 7 rfl rfl rfl 41 (.tmp 8) (.tmp 34) rfl br6_6 0 20 rfl ar6_5 rfl 41 zr6_6 Bxr6y6.out szPt hCr6_5.size (by rw [hzr6_6.size]; exact Nat.le_of_ble_eq_true rfl) hCr6_5.one' ?_
                intro ws6_0 hs6_0 hus6_0
                rw [splice_all _ _ 20 hzr6_6.size hCr6_5.size] at hs6_0
                have Bxr0y0_s6_0 := Lib.hid (hus6_0.blk Bxr0y0_6.out (fun e => hner6_6_Bxr0y0_s5_0.out e.symm))
                have Bxr0y1_s6_0 := Lib.hid (hus6_0.blk Bxr0y1_6.out (fun e => hner6_6_Bxr0y1_s5_0.out e.symm))
                have Bxr2y5_s6_0 := Lib.hid (hus6_0.blk Bxr2y5_6.out (fun e => hner6_6_Bxr2y5_s5_0.out e.symm))
                have Bxr5y3_s6_0 := Lib.hid (hus6_0.blk Bxr5y3_6.out (fun e => hner6_6_Bxr5y3_s5_0.out e.symm))
                have Bxr6y6_s6_0 := Lib.hid hs6_0
                have HU6_0 := Lib.hid (HU6.out.step hus6_0 (fun i hi h => absurd hi (Nat.not_lt.2 (h.symm ▸ hger6_6.out))))
                clear hs6_0 hus6_0
                refine wpOps_nil ?_
                refine hK9 _ _ ?_
                clear hK9
                refine wp_seq_k fun K10 hK10 => ?_
                refine wp_region_q #[true, true, true, true, true, true, true, true, true, true, true] ([.val (.agg ar2_3), .val (.bool true), .val (.bool false), .val (.bool false), .val (.agg ar6_5), .val (.agg ar5_2), .val (.agg (numsA .u8 keyT0)), .like (IsC 20 RP [some ((eB.times (expo k)).times (expo keyT0))]), .val (.bool true), .val (.bool true), .val (.bool true)] : List SQ) (by kernel_rfl) (by kernel_rfl) (by kernel_rfl) ?_ ?_
                · intro i o listed an wn ho hls hst hun hdep hI K' hK'
                  have hi : i = 0 ∨ i = 1 ∨ i = 2 ∨ i = 3 ∨ i = 4 ∨ i = 5 ∨ i = 6 ∨ i = 7 ∨ i = 8 ∨ i = 9 ∨ i = 10 ∨ False := slot_cases (l := [0, 1, 2, 3, 4, 5, 6, 7, 8, 9, 10]) rfl ho hst
                  rcases hi with rfl | rfl | rfl | rfl | rfl | rfl | rfl | rfl | rfl | rfl | rfl | hi
                  · obtain rfl := Option.some.inj ho
                    have hvp : an.eval (.tmp 5) = ptrTo br2_5 := hI.oldQ (by kernel_rfl) rfl
                    exact hI.pureQ (by kernel_rfl) hls rfl rfl rfl _ (run_loadQ rfl hvp wn (hI.upd.blk (show Blk ws6_0.drew br2_5 41 ar2_3 from Bxr2y5_s6_0.out) (fun h => h)) Tryd.underlying41 rfl szPt (by rw [hCr2_3.size]; exact Nat.le_of_ble_eq_true rfl)) (.val (.agg ar2_3)) rfl (congrArg Value.agg (extract_all _ 20 hCr2_3.size)) rfl hK'
                  · obtain rfl := Option.some.inj ho
                    obtain ⟨vp, hvp, hsp⟩ := hI.haveQ 0 _ 35 (.val (.agg ar2_3)) rfl rfl rfl (hdep ⟨0, .data⟩ (by simp) rfl)
                    obtain rfl := hsp
                    exact hI.callQ (by kernel_rfl) hls rfl rfl rfl 38 #[.tmp 35] _ rfl #[.agg ar2_3] (by simp [eval_of hvp]) (run_enter Tryd.func38 (by kernel_rfl) (by kernel_rfl)) (.val (.bool true)) rfl rfl ((tinyR _ (HT.out.upd (HU6_0.out.drew.trans hI.upd)) hCr2_3).mono fun _ _ h => ret_val (ret_b h hb)) hK'
                  · obtain rfl := Option.some.inj ho
                    obtain ⟨vp, hvp, hsp⟩ := hI.haveQ 1 _ 36 (.val (.bool true)) rfl rfl rfl (hdep ⟨1, .data⟩ (by simp) rfl)
                    obtain rfl := hsp
                    exact hI.pureQ (by kernel_rfl) hls rfl rfl rfl (.bool false) (run_not rfl (eval_of hvp) wn) (.val (.bool false)) rfl rfl rfl hK'
                  · obtain rfl := Option.some.inj ho
                    obtain ⟨vp, hvp, hsp⟩ := hI.haveQ 2 _ 37 (.val (.bool false)) rfl rfl rfl (hdep ⟨2, .data⟩ (by simp) rfl)
                    obtain rfl := hsp
                    exact hI.pureQ (by kernel_rfl) hls rfl rfl rfl (.bool false) (run_moveQ (.inl rfl) (eval_of hvp) wn) (.val (.bool false)) rfl rfl rfl hK'
                  · obtain rfl := Option.some.inj ho
                    obtain ⟨vg, hvg, hsg⟩ := hI.haveQ 3 _ 38 (.val (.bool false)) rfl rfl rfl (hdep ⟨3, .guard⟩ (by simp) rfl)
                    obtain rfl := hsg
                    have hvp : an.eval (.tmp 8) = ptrTo br6_6 := hI.oldQ (by kernel_rfl) rfl
                    exact hI.pureQ (by kernel_rfl) hls rfl (wanted_of rfl rfl rfl hvg) rfl _ (run_loadQ rfl hvp wn (hI.upd.blk (show Blk ws6_0.drew br6_6 41 ar6_5 from Bxr6y6_s6_0.out) (fun h => h)) Tryd.underlying41 rfl szPt (by rw [hCr6_5.size]; exact Nat.le_of_ble_eq_true rfl)) (.val (.agg ar6_5)) rfl (congrArg Value.agg (extract_all _ 20 hCr6_5.size)) rfl hK'
                  · obtain rfl := Option.some.inj ho
                    obtain ⟨vg, hvg, hsg⟩ := hI.haveQ 3 _ 38 (.val (.bool false)) rfl rfl rfl (hdep ⟨3, .guard⟩ (by simp) rfl)
                    obtain rfl := hsg
                    have hvp : an.eval (.tmp 7) = ptrTo br5_3 := hI.oldQ (by kernel_rfl) rfl
                    exact hI.pureQ (by kernel_rfl) hls rfl (wanted_of rfl rfl rfl hvg) rfl _ (run_loadQ rfl hvp wn (hI.upd.blk (show Blk ws6_0.drew br5_3 41 ar5_2 from Bxr5y3_s6_0.out) (fun h => h)) Tryd.underlying41 rfl szPt (by rw [hCr5_2.size]; exact Nat.le_of_ble_eq_true rfl)) (.val (.agg ar5_2)) rfl (congrArg Value.agg (extract_all _ 20 hCr5_2.size)) rfl hK'
                  · obtain rfl := Option.some.inj ho
                    obtain ⟨vg, hvg, hsg⟩ := hI.haveQ 3 _ 38 (.val (.bool false)) rfl rfl rfl (hdep ⟨3, .guard⟩ (by simp) rfl)
                    obtain rfl := hsg
                    exact hI.pureQ (by kernel_rfl) hls rfl (wanted_of rfl rfl rfl hvg) rfl (.agg (numsA .u8 keyT0)) (keyT0_run rfl wn) (.val (.agg (numsA .u8 keyT0))) rfl rfl rfl hK'
                  · obtain rfl := Option.some.inj ho
                    obtain ⟨vg, hvg, hsg⟩ := hI.haveQ 3 _ 38 (.val (.bool false)) rfl rfl rfl (hdep ⟨3, .guard⟩ (by simp) rfl)
                    obtain rfl := hsg
                    obtain ⟨vp, hvp, hsp⟩ := hI.haveQ 5 _ 40 (.val (.agg ar5_2)) rfl rfl rfl (hdep ⟨5, .data⟩ (by simp) rfl)
                    obtain rfl := hsp
                    obtain ⟨vq, hvq, hsq⟩ := hI.haveQ 6 _ 41 (.val (.agg (numsA .u8 keyT0))) rfl rfl rfl (hdep ⟨6, .data⟩ (by simp) rfl)
                    obtain rfl := hsq
                    exact hI.callQ (by kernel_rfl) hls rfl (wanted_of rfl rfl rfl hvg) rfl 36 #[.tmp 40, .tmp 41] _ rfl #[.agg ar5_2, .agg (numsA .u8 keyT0)] (by simp [eval_of hvp, eval_of hvq]) (run_enter Tryd.func36 (by kernel_rfl) (by kernel_rfl)) (.like (IsC 20 RP [some ((eB.times (expo k)).times (expo keyT0))])) rfl rfl ((multiplyR _ (HT.out.upd (HU6_0.out.drew.trans hI.upd)) hCr5_2 keyT0_length keyT0_digs).mono fun _ _ h => h.sq) hK'
                  · obtain rfl := Option.some.inj ho
                    obtain ⟨vg, hvg, hsg⟩ := hI.haveQ 3 _ 38 (.val (.bool false)) rfl rfl rfl (hdep ⟨3, .guard⟩ (by simp) rfl)
                    obtain rfl := hsg
                    obtain ⟨vp, hvp, hsp⟩ := hI.haveQ 4 _ 39 (.val (.agg ar6_5)) rfl rfl rfl (hdep ⟨4, .data⟩ (by simp) rfl)
                    obtain rfl := hsp
                    obtain ⟨vq, hvq, aq, rfl, hCq⟩ := hI.haveQ 7 _ 42 (.like (IsC 20 RP [some ((eB.times (expo k)).times (expo keyT0))])) rfl rfl rfl (hdep ⟨7, .data⟩ (by simp) rfl)
                    exact hI.callQ (by kernel_rfl) hls rfl (wanted_of rfl rfl rfl hvg) rfl 31 #[.tmp 39, .tmp 42] _ rfl #[.agg ar6_5, .agg aq] (by simp [eval_of hvp, eval_of hvq]) (run_enter Tryd.func31 (by kernel_rfl) (by kernel_rfl)) (.val (.bool true)) rfl rfl ((equalR _ hCr6_5 hCq).mono fun _ _ h => ret_val (ret_b h (tiny_sum hb))) hK'
                  · obtain rfl := Option.some.inj ho
                    obtain ⟨vp, hvp, hsp⟩ := hI.haveQ 3 _ 38 (.val (.bool false)) rfl rfl rfl (hdep ⟨3, .data⟩ (by simp) rfl)
                    obtain rfl := hsp
                    obtain ⟨vq, hvq, hsq⟩ := hI.haveQ 8 _ 43 (.val (.bool true)) rfl rfl rfl (hdep ⟨8, .data⟩ (by simp) rfl)
                    obtain rfl := hsq
                    exact hI.pureQ (by kernel_rfl) hls rfl rfl rfl (.bool true) (run_pickF rfl (eval_of hvp) (eval_of hvq) wn) (.val (.bool true)) rfl rfl rfl hK'
                  · obtain rfl := Option.some.inj ho
                    obtain ⟨vp, hvp, hsp⟩ := hI.haveQ 9 _ 44 (.val (.bool true)) rfl rfl rfl (hdep ⟨9, .data⟩ (by simp) rfl)
                    obtain rfl := hsp
                    exact hI.pureQ (by kernel_rfl) hls rfl rfl rfl (.bool true) (run_moveQ (.inr rfl) (eval_of hvp) wn) (.val (.bool true)) rfl rfl rfl hK'
                  · exact hi.elim
                · intro fuel an w8 hf hI
                  obtain ⟨vr7_0, hvr7_0, hsr7_0⟩ := hI.haveQ 0 _ 35 (.val (.agg ar2_3)) rfl rfl rfl rfl
                  obtain rfl := hsr7_0
                  obtain ⟨vr7_1, hvr7_1, hsr7_1⟩ := hI.haveQ 1 _ 36 (.val (.bool true)) rfl rfl rfl rfl
                  obtain rfl := hsr7_1
                  obtain ⟨vr7_2, hvr7_2, hsr7_2⟩ := hI.haveQ 2 _ 37 (.val (.bool false)) rfl rfl rfl rfl
                  obtain rfl := hsr7_2
                  obtain ⟨vr7_3, hvr7_3, hsr7_3⟩ := hI.haveQ 3 _ 38 (.val (.bool false)) rfl rfl rfl rfl
                  obtain rfl := hsr7_3
                  obtain ⟨vr7_4, hvr7_4, hsr7_4⟩ := hI.haveQ 4 _ 39 (.val (.agg ar6_5)) rfl rfl rfl rfl
                  obtain rfl := hsr7_4
                  obtain ⟨vr7_5, hvr7_5, hsr7_5⟩ := hI.haveQ 5 _ 40 (.val (.agg ar5_2)) rfl rfl rfl rfl
                  obtain rfl := hsr7_5
                  obtain ⟨vr7_6, hvr7_6, hsr7_6⟩ := hI.haveQ 6 _ 41 (.val (.agg (numsA .u8 keyT0))) rfl rfl rfl rfl
                  obtain rfl := hsr7_6
                  obtain ⟨vr7_7, hvr7_7, ar7_7, rfl, hCr7_7⟩ := hI.haveQ 7 _ 42 (.like (IsC 20 RP [some ((eB.times (expo k)).times (expo keyT0))])) rfl rfl rfl rfl
                  obtain ⟨vr7_8, hvr7_8, hsr7_8⟩ := hI.haveQ 8 _ 43 (.val (.bool true)) rfl rfl rfl rfl
                  obtain rfl := hsr7_8
                  obtain ⟨vr7_9, hvr7_9, hsr7_9⟩ := hI.haveQ 9 _ 44 (.val (.bool true)) rfl rfl rfl rfl
                  obtain rfl := hsr7_9
                  obtain ⟨vr7_10, hvr7_10, hsr7_10⟩ := hI.haveQ 10 _ 4 (.val (.bool true)) rfl rfl rfl rfl
                  obtain rfl := hsr7_10
                  have hupd := hI.upd
                  have ha := hI.act [(35, .agg ar2_3), (36, .bool true), (37, .bool false), (38, .bool false), (39, .agg ar6_5), (40, .agg ar5_2), (41, .agg (numsA .u8 keyT0)), (42, .agg ar7_7), (43, .bool true), (44, .bool true), (4, .bool true)] (by simp [hvr7_0, hvr7_1, hvr7_2, hvr7_3, hvr7_4, hvr7_5, hvr7_6, hvr7_7, hvr7_8, hvr7_9, hvr7_10]) (by kernel_rfl)
                  clear hI hvr7_0 hvr7_1 hvr7_2 hvr7_3 hvr7_4 hvr7_5 hvr7_6 hvr7_7 hvr7_8 hvr7_9 hvr7_10
                  subst ha
                  simp only [List.foldl_cons, List.foldl_nil, List.setIfInBounds_toArray, List.set_cons_zero, List.set_cons_succ]
                  have Bxr0y0_7 := Lib.hid (hupd.blk (show Blk ws6_0.drew br0_0 23 (numsA .u8 a) from Bxr0y0_s6_0.out) (fun h => h))
                  have Bxr0y1_7 := Lib.hid (hupd.blk (show Blk ws6_0.drew br0_1 23 (numsA .u8 k) from Bxr0y1_s6_0.out) (fun h => h))
                  have Bxr2y5_7 := Lib.hid (hupd.blk (show Blk ws6_0.drew br2_5 41 ar2_3 from Bxr2y5_s6_0.out) (fun h => h))
                  have Bxr5y3_7 := Lib.hid (hupd.blk (show Blk ws6_0.drew br5_3 41 ar5_2 from Bxr5y3_s6_0.out) (fun h => h))
                  have Bxr6y6_7 := Lib.hid (hupd.blk (show Blk ws6_0.drew br6_6 41 ar6_5 from Bxr6y6_s6_0.out) (fun h => h))
                  have HU7 := Lib.hid (HU6_0.out.drew.trans hupd)
                  clear hupd
                  refine wpAny_done (by kernel_rfl) ?_ _
                  refine hK10 _ _ ?_
                  clear hK10
                  refine wp_ret ?_
                  try dsimp only [Exit.then]
                  try dsimp only [Exit.inBlock]
                  exact bodyPost_ret (v := .bool true) (results_tmpQ (fn := Tryd.f12) (t := 4) rfl _ _ (.bool true) rfl) rfl ⟨rfl, HU7.out⟩
set_option maxHeartbeats 4000000 in
theorem ptinyF {a k : List Int} {eP : EP} (w : World) (hT : Tw w) (ha : a.length = 32) (da : Digs 256 a) (hl : k.length = 32) (hd : Digs 256 k) (hk : encP eP = a) (hb : edEq (eP.times 8) EP.nil = false) :
    Calls Tryd.prog 12 #[.agg (numsA .u8 a), .agg (numsA .u8 k)] w fun e w' => e = .returned (.bool true) ∧ Upd (fun _ => False) w w' := by
  have HT := Lib.hid hT
  clear hT
  have HU := Lib.hid (Upd.refl (fun _ => False) w)
  go_enter Tryd.func12, Tryd.ntmps12
  refine wp_seq_k fun K0 hK0 => ?_
  refine wp_region_qS 3 #[true, true, true] [] ([.blk ptrTo 23 (fun z => z = numsA .u8 a), .blk ptrTo 23 (fun z => z = numsA .u8 k), .val (.bool false)] : List SQ) (by kernel_rfl) (by kernel_rfl) (by kernel_rfl) ?_ ?_
  · intro i o listed an wn ho hls hst hun hdep hI hpre K' hK'
    have hi : i = 0 ∨ i = 1 ∨ i = 2 ∨ False := slot_cases (l := [0, 1, 2]) rfl ho hst
    rcases hi with rfl | rfl | rfl | hi
    · obtain rfl := Option.some.inj ho
      have hvp : an.eval (.tmp 0) = .agg (numsA .u8 a) := hI.oldQ (by kernel_rfl) rfl
      exact hI.newQ (by kernel_rfl) hls (Nat.le_refl _) (newsQ_spec (l := [0, 1]) (by kernel_rfl) ⟨⟨_, _, rfl⟩, ⟨_, _, rfl⟩, trivial⟩) rfl rfl rfl 23 _ (fun z => z = numsA .u8 a) (run_boxQ rfl hvp wn) rfl rfl hK'
    · obtain rfl := Option.some.inj ho
      have hvp : an.eval (.tmp 1) = .agg (numsA .u8 k) := hI.oldQ (by kernel_rfl) rfl
      exact hI.newQ (by kernel_rfl) hls (Nat.le_refl _) (newsQ_spec (l := [0, 1]) (by kernel_rfl) ⟨⟨_, _, rfl⟩, ⟨_, _, rfl⟩, trivial⟩) rfl rfl rfl 23 _ (fun z => z = numsA .u8 k) (run_boxQ rfl hvp wn) rfl rfl hK'
    · obtain rfl := Option.some.inj ho
      exact hI.pureQ (by kernel_rfl) hls rfl rfl rfl (.bool false) (run_moveQ (.inr rfl) (show an.eval (.const (.bool false)) = .bool false from rfl) wn) (.val (.bool false)) rfl rfl rfl hK'
    · exact hi.elim
  · intro an w1 hI
    obtain ⟨vr0_0, hvr0_0, br0_0, zr0_0, rfl, hnr0_0, hbr0_0, hzr0_0⟩ := hI.haveQ 0 _ 2 (.blk ptrTo 23 (fun z => z = numsA .u8 a)) rfl rfl rfl rfl
    rw [hzr0_0] at hbr0_0
    clear hzr0_0
    obtain ⟨vr0_1, hvr0_1, br0_1, zr0_1, rfl, hnr0_1, hbr0_1, hzr0_1⟩ := hI.haveQ 1 _ 3 (.blk ptrTo 23 (fun z => z = numsA .u8 k)) rfl rfl rfl rfl
    rw [hzr0_1] at hbr0_1
    clear hzr0_1
    obtain ⟨vr0_2, hvr0_2, hsr0_2⟩ := hI.haveQ 2 _ 4 (.val (.bool false)) rfl rfl rfl rfl
    obtain rfl := hsr0_2
    have hupd := hI.upd
    have hner0_0_r0_1 := Lib.hid (show br0_0 ≠ br0_1 from fun e => hI.apart 0 1 _ _ 2 3 (by omega) rfl rfl rfl rfl rfl rfl rfl rfl (by rw [hvr0_0, hvr0_1, e]))
    have ha := hI.act [(2, ptrTo br0_0), (3, ptrTo br0_1), (4, .bool false)] (by simp [hvr0_0, hvr0_1, hvr0_2]) (by kernel_rfl)
    clear hI hvr0_0 hvr0_1 hvr0_2
    subst ha
    simp only [List.foldl_cons, List.foldl_nil, List.setIfInBounds_toArray, List.set_cons_zero, List.set_cons_succ]
    have hger0_0 := Lib.hid (Nat.le_trans HU.out.size hnr0_0)
    have hger0_1 := Lib.hid (Nat.le_trans HU.out.size hnr0_1)
    have Bxr0y0 := Lib.hid hbr0_0
    have Bxr0y1 := Lib.hid hbr0_1
    have HU0 := Lib.hid (HU.out.trans hupd)
    clear hupd
    refine wpOps_nil ?_
    refine hK0 _ _ ?_
    clear hK0
    refine wp_seq_k fun K1 hK1 => ?_
    refine wp_seq_k fun K2 hK2 => ?_
    refine wp_region_qS 2 #[true, true] [] ([.val (.bool true), .val (.bool false)] : List SQ) (by kernel_rfl) (by kernel_rfl) (by kernel_rfl) ?_ ?_
    · intro i o listed an wn ho hls hst hun hdep hI hpre K' hK'
      have hi : i = 0 ∨ i = 1 ∨ False := slot_cases (l := [0, 1]) rfl ho hst
      rcases hi with rfl | rfl | hi
      · obtain rfl := Option.some.inj ho
        exact hI.callQ (by kernel_rfl) hls rfl rfl rfl 23 #[] _ rfl #[] (by simp) (run_enter Tryd.func23 (by kernel_rfl) (by kernel_rfl)) (.val (.bool true)) rfl rfl ((basedL _ (HT.out.upd (HU0.out.trans hI.upd))).mono fun _ _ h => ret_val h) hK'
      · obtain rfl := Option.some.inj ho
        obtain ⟨vp, hvp, hsp⟩ := hI.haveQ 0 _ 9 (.val (.bool true)) rfl rfl rfl (hdep ⟨0, .data⟩ (by simp) rfl)
        obtain rfl := hsp
        exact hI.pureQ (by kernel_rfl) hls rfl rfl rfl (.bool false) (run_not rfl (eval_of hvp) wn) (.val (.bool false)) rfl rfl rfl hK'
      · exact hi.elim
    · intro an w2 hI
      obtain ⟨vr1_0, hvr1_0, hsr1_0⟩ := hI.haveQ 0 _ 9 (.val (.bool true)) rfl rfl rfl rfl
      obtain rfl := hsr1_0
      obtain ⟨vr1_1, hvr1_1, hsr1_1⟩ := hI.haveQ 1 _ 10 (.val (.bool false)) rfl rfl rfl rfl
      obtain rfl := hsr1_1
      have hupd := hI.upd
      have ha := hI.act [(9, .bool true), (10, .bool false)] (by simp [hvr1_0, hvr1_1]) (by kernel_rfl)
      clear hI hvr1_0 hvr1_1
      subst ha
      simp only [List.foldl_cons, List.foldl_nil, List.setIfInBounds_toArray, List.set_cons_zero, List.set_cons_succ]
      have Bxr0y0_1 := Lib.hid (hupd.blk (show Blk w1 br0_0 23 (numsA .u8 a) from Bxr0y0.out) (fun h => h))
      have Bxr0y1_1 := Lib.hid (hupd.blk (show Blk w1 br0_1 23 (numsA .u8 k) from Bxr0y1.out) (fun h => h))
      have HU1 := Lib.hid (HU0.out.trans hupd)
      clear hupd
      refine wpOps_nil ?_
      refine hK2 _ _ ?_
      clear hK2
      refine wp_cond_false rfl ?_
      refine wp_skip ?_
      refine hK1 _ _ ?_
      clear hK1
      refine wp_seq_k fun K3 hK3 => ?_
      refine wp_region_qS 6 #[true, true, true, true, true, true, false, false] [6, 7] ([.val (.agg (numsA .u8 a)), .like (IsCV 20 RP [some eP] (.int .i64 0)), .like (IsCV 20 RP [some eP] (.int .i64 0)), .like (IsC 20 RP [some eP]), .val (.int .i64 0), .blk ptrTo 41 (Ch 20 RP [none]), .val undef, .val undef] : List SQ) (by kernel_rfl) (by kernel_rfl) (by kernel_rfl) ?_ ?_
      · intro i o listed an wn ho hls hst hun hdep hI hpre K' hK'
        have hi : i = 0 ∨ i = 1 ∨ i = 2 ∨ i = 3 ∨ i = 4 ∨ i = 5 ∨ False := slot_cases (l := [0, 1, 2, 3, 4, 5]) rfl ho hst
        rcases hi with rfl | rfl | rfl | rfl | rfl | rfl | hi
        · obtain rfl := Option.some.inj ho
          have hvp : an.eval (.tmp 2) = ptrTo br0_0 := hI.oldQ (by kernel_rfl) rfl
          exact hI.pureQ (by kernel_rfl) hls rfl rfl rfl _ (run_loadQ rfl hvp wn (hI.upd.blk (show Blk w2 br0_0 23 (numsA .u8 a) from Bxr0y0_1.out) (fun h => h)) Tryd.underlying23 rfl sizeKey (by rw [numsA_size, ha]; omega)) (.val (.agg (numsA .u8 a))) rfl (congrArg Value.agg (extract_all _ 32 (by rw [numsA_size]; exact ha))) rfl hK'
        · obtain rfl := Option.some.inj ho
          obtain ⟨vp, hvp, hsp⟩ := hI.haveQ 0 _ 12 (.val (.agg (numsA .u8 a))) rfl rfl rfl (hdep ⟨0, .data⟩ (by simp) rfl)
          obtain rfl := hsp
          exact hI.callQ (by kernel_rfl) hls rfl rfl rfl 24 #[.tmp 12] _ rfl #[.agg (numsA .u8 a)] (by simp [eval_of hvp]) (run_enter Tryd.func24 (by kernel_rfl) (by kernel_rfl)) (.like (IsCV 20 RP [some eP] (.int .i64 0))) rfl rfl ((decodeT _ (HT.out.upd (HU1.out.trans hI.upd)) ha da hk).mono fun _ _ h => h.sq) hK'
        · obtain rfl := Option.some.inj ho
          obtain ⟨vp, hvp, ap, rfl, hCp⟩ := hI.haveQ 1 _ 13 (.like (IsCV 20 RP [some eP] (.int .i64 0))) rfl rfl rfl (hdep ⟨1, .data⟩ (by simp) rfl)
          exact hI.pureQ (by kernel_rfl) hls rfl rfl rfl _ (run_moveQ (.inl rfl) (eval_of hvp) wn) (.like (IsCV 20 RP [some eP] (.int .i64 0))) rfl ⟨_, rfl, hCp⟩ rfl hK'
        · obtain rfl := Option.some.inj ho
          obtain ⟨vp, hvp, ap, rfl, hCp⟩ := hI.haveQ 2 _ 11 (.like (IsCV 20 RP [some eP] (.int .i64 0))) rfl rfl rfl (hdep ⟨2, .data⟩ (by simp) rfl)
          exact hI.pureQ (by kernel_rfl) hls rfl rfl rfl _ (run_extractQ rfl (eval_of hvp) rfl wn) (.like (IsC 20 RP [some eP])) rfl ⟨_, rfl, hCp⟩ rfl hK'
        · obtain rfl := Option.some.inj ho
          obtain ⟨vp, hvp, ap, rfl, hCp⟩ := hI.haveQ 2 _ 11 (.like (IsCV 20 RP [some eP] (.int .i64 0))) rfl rfl rfl (hdep ⟨2, .data⟩ (by simp) rfl)
          exact hI.pureQ (by kernel_rfl) hls rfl rfl rfl (.int .i64 0) (run_extractQ rfl (eval_of hvp) rfl wn) (.val (.int .i64 0)) rfl rfl rfl hK'
        · obtain rfl := Option.some.inj ho
          exact hI.newQ (by kernel_rfl) hls (Nat.le_refl _) (newsQ_spec (l := [5]) (by kernel_rfl) ⟨⟨_, _, rfl⟩, trivial⟩) rfl rfl rfl 41 zPt _ (run_allocQ rfl zPt_run wn) rfl zPt_p hK'
        · exact hi.elim
      · intro an w3 hI
        obtain ⟨vr2_0, hvr2_0, hsr2_0⟩ := hI.haveQ 0 _ 12 (.val (.agg (numsA .u8 a))) rfl rfl rfl rfl
        obtain rfl := hsr2_0
        obtain ⟨vr2_1, hvr2_1, ar2_1, rfl, hCr2_1⟩ := hI.haveQ 1 _ 13 (.like (IsCV 20 RP [some eP] (.int .i64 0))) rfl rfl rfl rfl
        obtain ⟨vr2_2, hvr2_2, ar2_2, rfl, hCr2_2⟩ := hI.haveQ 2 _ 11 (.like (IsCV 20 RP [some eP] (.int .i64 0))) rfl rfl rfl rfl
        obtain ⟨vr2_3, hvr2_3, ar2_3, rfl, hCr2_3⟩ := hI.haveQ 3 _ 14 (.like (IsC 20 RP [some eP])) rfl rfl rfl rfl
        obtain ⟨vr2_4, hvr2_4, hsr2_4⟩ := hI.haveQ 4 _ 15 (.val (.int .i64 0)) rfl rfl rfl rfl
        obtain rfl := hsr2_4
        obtain ⟨vr2_5, hvr2_5, br2_5, zr2_5, rfl, hnr2_5, hbr2_5, hzr2_5⟩ := hI.haveQ 5 _ 5 (.blk ptrTo 41 (Ch 20 RP [none])) rfl rfl rfl rfl
        have hupd := hI.upd
        have ha := hI.act [(12, .agg (numsA .u8 a)), (13, .tuple #[.agg ar2_1, .int .i64 0]), (11, .tuple #[.agg ar2_2, .int .i64 0]), (14, .agg ar2_3), (15, .int .i64 0), (5, ptrTo br2_5)] (by simp [hvr2_0, hvr2_1, hvr2_2, hvr2_3, hvr2_4, hvr2_5]) (by kernel_rfl)
        clear hI hvr2_0 hvr2_1 hvr2_2 hvr2_3 hvr2_4 hvr2_5
        subst ha
        simp only [List.foldl_cons, List.foldl_nil, List.setIfInBounds_toArray, List.set_cons_zero, List.set_cons_succ]
        have hner2_5_Bxr0y0_1 := Lib.hid (show br2_5 ≠ br0_0 from Nat.ne_of_gt (Nat.lt_of_lt_of_le Bxr0y0_1.out.lt hnr2_5))
        have hner2_5_Bxr0y1_1 := Lib.hid (show br2_5 ≠ br0_1 from Nat.ne_of_gt (Nat.lt_of_lt_of_le Bxr0y1_1.out.lt hnr2_5))
        have hger2_5 := Lib.hid (Nat.le_trans HU1.out.size hnr2_5)
        have Bxr0y0_2 := Lib.hid (hupd.blk (show Blk w2 br0_0 23 (numsA .u8 a) from Bxr0y0_1.out) (fun h => h))
        have Bxr0y1_2 := Lib.hid (hupd.blk (show Blk w2 br0_1 23 (numsA .u8 k) from Bxr0y1_1.out) (fun h => h))
        have Bxr2y5 := Lib.hid hbr2_5
        have HU2 := Lib.hid (HU1.out.trans hupd)
        clear hupd
        refine wpOps_storeQ 6 rfl rfl rfl 41 (.tmp 5) (.tmp 14) rfl br2_5 0 20 rfl ar2_3 rfl 41 zr2_5 Bxr2y5.out szPt hCr2_3.size (by rw [hzr2_5.size]; exact Nat.le_of_ble_eq_true rfl) hCr2_3.one' ?_
        intro ws2_0 hs2_0 hus2_0
        rw [splice_all _ _ 20 hzr2_5.size hCr2_3.size] at hs2_0
        have Bxr0y0_s2_0 := Lib.hid (hus2_0.blk Bxr0y0_2.out (fun e => hner2_5_Bxr0y0_1.out e.symm))
        have Bxr0y1_s2_0 := Lib.hid (hus2_0.blk Bxr0y1_2.out (fun e => hner2_5_Bxr0y1_1.out e.symm))
        have Bxr2y5_s2_0 := Lib.hid hs2_0
        have HU2_0 := Lib.hid (HU2.out.step hus2_0 (fun i hi h => absurd hi (Nat.not_lt.2 (h.symm ▸ hger2_5.out))))
        clear hs2_0 hus2_0
        refine wpOps_pureQ 7 rfl rfl 6 rfl (.int .i64 0) (run_moveQ (x := .tmp 15) (v := .int .i64 0) (.inr rfl) rfl _) ?_
        simp only [List.setIfInBounds_toArray, List.set_cons_zero, List.set_cons_succ]
        refine wpOps_nil ?_
        refine hK3 _ _ ?_
        clear hK3
        refine wp_seq_k fun K4 hK4 => ?_
        refine wp_seq_k fun K5 hK5 => ?_
        refine wp_region_qS 2 #[true, true] [] ([.val (.int .i64 0), .val (.bool false)] : List SQ) (by kernel_rfl) (by kernel_rfl) (by kernel_rfl) ?_ ?_
        · intro i o listed an wn ho hls hst hun hdep hI hpre K' hK'
          have hi : i = 0 ∨ i = 1 ∨ False := slot_cases (l := [0, 1]) rfl ho hst
          rcases hi with rfl | rfl | hi
          · obtain rfl := Option.some.inj ho
            have hvp : an.eval (.tmp 6) = .int .i64 0 := hI.oldQ (by kernel_rfl) rfl
            exact hI.pureQ (by kernel_rfl) hls rfl rfl rfl (.int .i64 0) (run_moveQ (.inl rfl) hvp wn) (.val (.int .i64 0)) rfl rfl rfl hK'
          · obtain rfl := Option.some.inj ho
            obtain ⟨vp, hvp, hsp⟩ := hI.haveQ 0 _ 16 (.val (.int .i64 0)) rfl rfl rfl (hdep ⟨0, .data⟩ (by simp) rfl)
            obtain rfl := hsp
            exact hI.pureQ (by kernel_rfl) hls rfl rfl rfl (.bool false) (run_neq rfl (eval_of hvp) rfl (ne_of_eqB (show decide ((0 : Int) = 0) = true by decide)) wn) (.val (.bool false)) rfl rfl rfl hK'
          · exact hi.elim
        · intro an w4 hI
          obtain ⟨vr3_0, hvr3_0, hsr3_0⟩ := hI.haveQ 0 _ 16 (.val (.int .i64 0)) rfl rfl rfl rfl
          obtain rfl := hsr3_0
          obtain ⟨vr3_1, hvr3_1, hsr3_1⟩ := hI.haveQ 1 _ 17 (.val (.bool false)) rfl rfl rfl rfl
          obtain rfl := hsr3_1
          have hupd := hI.upd
          have ha := hI.act [(16, .int .i64 0), (17, .bool false)] (by simp [hvr3_0, hvr3_1]) (by kernel_rfl)
          clear hI hvr3_0 hvr3_1
          subst ha
          simp only [List.foldl_cons, List.foldl_nil, List.setIfInBounds_toArray, List.set_cons_zero, List.set_cons_succ]
          have Bxr0y0_3 := Lib.hid (hupd.blk (show Blk ws2_0 br0_0 23 (numsA .u8 a) from Bxr0y0_s2_0.out) (fun h => h))
          have Bxr0y1_3 := Lib.hid (hupd.blk (show Blk ws2_0 br0_1 23 (numsA .u8 k) from Bxr0y1_s2_0.out) (fun h => h))
          have Bxr2y5_3 := Lib.hid (hupd.blk (show Blk ws2_0 br2_5 41 ar2_3 from Bxr2y5_s2_0.out) (fun h => h))
          have HU3 := Lib.hid (HU2_0.out.trans hupd)
          clear hupd
          refine wpOps_nil ?_
          refine hK5 _ _ ?_
          clear hK5
          refine wp_cond_false rfl ?_
          refine wp_skip ?_
          refine hK4 _ _ ?_
          clear hK4
          refine wp_seq_k fun K6 hK6 => ?_
          refine wp_seq_k fun K7 hK7 => ?_
          refine wp_region_q #[true, true, true, true, true, true, true, true] ([.val (.agg ar2_3), .val (.bool false), .val (.agg ar2_3), .val (.agg (numsA .u8 keyT0)), .like (IsC 20 RP [some (eP.times (expo keyT0))]), .like (IsC 20 RP [some EP.nil]), .val (.bool false), .val (.bool false)] : List SQ) (by kernel_rfl) (by kernel_rfl) (by kernel_rfl) ?_ ?_
          · intro i o listed an wn ho hls hst hun hdep hI K' hK'
            have hi : i = 0 ∨ i = 1 ∨ i = 2 ∨ i = 3 ∨ i = 4 ∨ i = 5 ∨ i = 6 ∨ i = 7 ∨ False := slot_cases (l := [0, 1, 2, 3, 4, 5, 6, 7]) rfl ho hst
            rcases hi with rfl | rfl | rfl | rfl | rfl | rfl | rfl | rfl | hi
            · obtain rfl := Option.some.inj ho
              have hvp : an.eval (.tmp 5) = ptrTo br2_5 := hI.oldQ (by kernel_rfl) rfl
              exact hI.pureQ (by kernel_rfl) hls rfl rfl rfl _ (run_loadQ rfl hvp wn (hI.upd.blk (show Blk w4.drew br2_5 41 ar2_3 from Bxr2y5_3.out) (fun h => h)) Tryd.underlying41 rfl szPt (by rw [hCr2_3.size]; exact Nat.le_of_ble_eq_true rfl)) (.val (.agg ar2_3)) rfl (congrArg Value.agg (extract_all _ 20 hCr2_3.size)) rfl hK'
            · obtain rfl := Option.some.inj ho
              obtain ⟨vp, hvp, hsp⟩ := hI.haveQ 0 _ 18 (.val (.agg ar2_3)) rfl rfl rfl (hdep ⟨0, .data⟩ (by simp) rfl)
              obtain rfl := hsp
              exact hI.callQ (by kernel_rfl) hls rfl rfl rfl 38 #[.tmp 18] _ rfl #[.agg ar2_3] (by simp [eval_of hvp]) (run_enter Tryd.func38 (by kernel_rfl) (by kernel_rfl)) (.val (.bool false)) rfl rfl ((tinyR _ (HT.out.upd (HU3.out.drew.trans hI.upd)) hCr2_3).mono fun _ _ h => ret_val (ret_b h hb)) hK'
            · obtain rfl := Option.some.inj ho
              have hvp : an.eval (.tmp 5) = ptrTo br2_5 := hI.oldQ (by kernel_rfl) rfl
              exact hI.pureQ (by kernel_rfl) hls rfl rfl rfl _ (run_loadQ rfl hvp wn (hI.upd.blk (show Blk w4.drew br2_5 41 ar2_3 from Bxr2y5_3.out) (fun h => h)) Tryd.underlying41 rfl szPt (by rw [hCr2_3.size]; exact Nat.le_of_ble_eq_true rfl)) (.val (.agg ar2_3)) rfl (congrArg Value.agg (extract_all _ 20 hCr2_3.size)) rfl hK'
            · obtain rfl := Option.some.inj ho
              exact hI.pureQ (by kernel_rfl) hls rfl rfl rfl (.agg (numsA .u8 keyT0)) (keyT0_run rfl wn) (.val (.agg (numsA .u8 keyT0))) rfl rfl rfl hK'
            · obtain rfl := Option.some.inj ho
              obtain ⟨vp, hvp, hsp⟩ := hI.haveQ 2 _ 20 (.val (.agg ar2_3)) rfl rfl rfl (hdep ⟨2, .data⟩ (by simp) rfl)
              obtain rfl := hsp
              obtain ⟨vq, hvq, hsq⟩ := hI.haveQ 3 _ 21 (.val (.agg (numsA .u8 keyT0))) rfl rfl rfl (hdep ⟨3, .data⟩ (by simp) rfl)
              obtain rfl := hsq
              exact hI.callQ (by kernel_rfl) hls rfl rfl rfl 36 #[.tmp 20, .tmp 21] _ rfl #[.agg ar2_3, .agg (numsA .u8 keyT0)] (by simp [eval_of hvp, eval_of hvq]) (run_enter Tryd.func36 (by kernel_rfl) (by kernel_rfl)) (.like (IsC 20 RP [some (eP.times (expo keyT0))])) rfl rfl ((multiplyR _ (HT.out.upd (HU3.out.drew.trans hI.upd)) hCr2_3 keyT0_length keyT0_digs).mono fun _ _ h => h.sq) hK'
            · obtain rfl := Option.some.inj ho
              exact hI.callQ (by kernel_rfl) hls rfl rfl rfl 33 #[] _ rfl #[] (by simp) (run_enter Tryd.func33 (by kernel_rfl) (by kernel_rfl)) (.like (IsC 20 RP [some EP.nil])) rfl rfl ((zeroR _ ).mono fun _ _ h => h.sq) hK'
            · obtain rfl := Option.some.inj ho
              obtain ⟨vp, hvp, ap, rfl, hCp⟩ := hI.haveQ 4 _ 22 (.like (IsC 20 RP [some (eP.times (expo keyT0))])) rfl rfl rfl (hdep ⟨4, .data⟩ (by simp) rfl)
              obtain ⟨vq, hvq, aq, rfl, hCq⟩ := hI.haveQ 5 _ 23 (.like (IsC 20 RP [some EP.nil])) rfl rfl rfl (hdep ⟨5, .data⟩ (by simp) rfl)
              exact hI.callQ (by kernel_rfl) hls rfl rfl rfl 31 #[.tmp 22, .tmp 23] _ rfl #[.agg ap, .agg aq] (by simp [eval_of hvp, eval_of hvq]) (run_enter Tryd.func31 (by kernel_rfl) (by kernel_rfl)) (.val (.bool false)) rfl rfl ((equalR _ hCp hCq).mono fun _ _ h => ret_val (ret_b h (show edEq (eP.times 8) EP.nil = false from hb))) hK'
            · obtain rfl := Option.some.inj ho
              obtain ⟨vp, hvp, hsp⟩ := hI.haveQ 1 _ 19 (.val (.bool false)) rfl rfl rfl (hdep ⟨1, .data⟩ (by simp) rfl)
              obtain rfl := hsp
              obtain ⟨vq, hvq, hsq⟩ := hI.haveQ 6 _ 24 (.val (.bool false)) rfl rfl rfl (hdep ⟨6, .data⟩ (by simp) rfl)
              obtain rfl := hsq
              exact hI.pureQ (by kernel_rfl) hls rfl rfl rfl (.bool false) (run_neqB rfl (eval_of hvp) (eval_of hvq) rfl wn) (.val (.bool false)) rfl rfl rfl hK'
            · exact hi.elim
          · intro fuel an w5 hf hI
            obtain ⟨vr4_0, hvr4_0, hsr4_0⟩ := hI.haveQ 0 _ 18 (.val (.agg ar2_3)) rfl rfl rfl rfl
            obtain rfl := hsr4_0
            obtain ⟨vr4_1, hvr4_1, hsr4_1⟩ := hI.haveQ 1 _ 19 (.val (.bool false)) rfl rfl rfl rfl
            obtain rfl := hsr4_1
            obtain ⟨vr4_2, hvr4_2, hsr4_2⟩ := hI.haveQ 2 _ 20 (.val (.agg ar2_3)) rfl rfl rfl rfl
            obtain rfl := hsr4_2
            obtain ⟨vr4_3, hvr4_3, hsr4_3⟩ := hI.haveQ 3 _ 21 (.val (.agg (numsA .u8 keyT0))) rfl rfl rfl rfl
            obtain rfl := hsr4_3
            obtain ⟨vr4_4, hvr4_4, ar4_4, rfl, hCr4_4⟩ := hI.haveQ 4 _ 22 (.like (IsC 20 RP [some (eP.times (expo keyT0))])) rfl rfl rfl rfl
            obtain ⟨vr4_5, hvr4_5, ar4_5, rfl, hCr4_5⟩ := hI.haveQ 5 _ 23 (.like (IsC 20 RP [some EP.nil])) rfl rfl rfl rfl
            obtain ⟨vr4_6, hvr4_6, hsr4_6⟩ := hI.haveQ 6 _ 24 (.val (.bool false)) rfl rfl rfl rfl
            obtain rfl := hsr4_6
            obtain ⟨vr4_7, hvr4_7, hsr4_7⟩ := hI.haveQ 7 _ 25 (.val (.bool false)) rfl rfl rfl rfl
            obtain rfl := hsr4_7
            have hupd := hI.upd
            have ha := hI.act [(18, .agg ar2_3), (19, .bool false), (20, .agg ar2_3), (21, .agg (numsA .u8 keyT0)), (22, .agg ar4_4), (23, .agg ar4_5), (24, .bool false), (25, .bool false)] (by simp [hvr4_0, hvr4_1, hvr4_2, hvr4_3, hvr4_4, hvr4_5, hvr4_6, hvr4_7]) (by kernel_rfl)
            clear hI hvr4_0 hvr4_1 hvr4_2 hvr4_3 hvr4_4 hvr4_5 hvr4_6 hvr4_7
            subst ha
            simp only [List.foldl_cons, List.foldl_nil, List.setIfInBounds_toArray, List.set_cons_zero, List.set_cons_succ]
            have Bxr0y0_4 := Lib.hid (hupd.blk (show Blk w4.drew br0_0 23 (numsA .u8 a) from Bxr0y0_3.out) (fun h => h))
            have Bxr0y1_4 := Lib.hid (hupd.blk (show Blk w4.drew br0_1 23 (numsA .u8 k) from Bxr0y1_3.out) (fun h => h))
            have Bxr2y5_4 := Lib.hid (hupd.blk (show Blk w4.drew br2_5 41 ar2_3 from Bxr2y5_3.out) (fun h => h))
            have HU4 := Lib.hid (HU3.out.drew.trans hupd)
            clear hupd
            refine wpAny_done (by kernel_rfl) ?_ _
            refine hK7 _ _ ?_
            clear hK7
            refine wp_cond_false rfl ?_
            refine wp_skip ?_
            refine hK6 _ _ ?_
            clear hK6
            refine wp_seq_k fun K8 hK8 => ?_
            refine wp_region_q #[true, true, true, true, false] ([.like (IsC 20 RP [some eB]), .val (.agg (numsA .u8 k)), .like (IsC 20 RP [some (eB.times (expo k))]), .blk ptrTo 41 (Ch 20 RP [none]), .val undef] : List SQ) (by kernel_rfl) (by kernel_rfl) (by kernel_rfl) ?_ ?_
            · intro i o listed an wn ho hls hst hun hdep hI K' hK'
              have hi : i = 0 ∨ i = 1 ∨ i = 2 ∨ i = 3 ∨ False := slot_cases (l := [0, 1, 2, 3]) rfl ho hst
              rcases hi with rfl | rfl | rfl | rfl | hi
              · obtain rfl := Option.some.inj ho
                exact hI.callQ (by kernel_rfl) hls rfl rfl rfl 34 #[] _ rfl #[] (by simp) (run_enter Tryd.func34 (by kernel_rfl) (by kernel_rfl)) (.like (IsC 20 RP [some eB])) rfl rfl ((baseR _ ).mono fun _ _ h => h.sq) hK'
              · obtain rfl := Option.some.inj ho
                have hvp : an.eval (.tmp 3) = ptrTo br0_1 := hI.oldQ (by kernel_rfl) rfl
                exact hI.pureQ (by kernel_rfl) hls rfl rfl rfl _ (run_loadQ rfl hvp wn (hI.upd.blk (show Blk w5.drew br0_1 23 (numsA .u8 k) from Bxr0y1_4.out) (fun h => h)) Tryd.underlying23 rfl sizeKey (by rw [numsA_size, hl]; omega)) (.val (.agg (numsA .u8 k))) rfl (congrArg Value.agg (extract_all _ 32 (by rw [numsA_size]; exact hl))) rfl hK'
              · obtain rfl := Option.some.inj ho
                obtain ⟨vp, hvp, ap, rfl, hCp⟩ := hI.haveQ 0 _ 26 (.like (IsC 20 RP [some eB])) rfl rfl rfl (hdep ⟨0, .data⟩ (by simp) rfl)
                obtain ⟨vq, hvq, hsq⟩ := hI.haveQ 1 _ 27 (.val (.agg (numsA .u8 k))) rfl rfl rfl (hdep ⟨1, .data⟩ (by simp) rfl)
                obtain rfl := hsq
                exact hI.callQ (by kernel_rfl) hls rfl rfl rfl 36 #[.tmp 26, .tmp 27] _ rfl #[.agg ap, .agg (numsA .u8 k)] (by simp [eval_of hvp, eval_of hvq]) (run_enter Tryd.func36 (by kernel_rfl) (by kernel_rfl)) (.like (IsC 20 RP [some (eB.times (expo k))])) rfl rfl ((multiplyR _ (HT.out.upd (HU4.out.drew.trans hI.upd)) hCp hl hd).mono fun _ _ h => h.sq) hK'
              · obtain rfl := Option.some.inj ho
                exact hI.newQ (by kernel_rfl) hls (Nat.le_refl _) (newsQ_spec (l := [3]) (by kernel_rfl) ⟨⟨_, _, rfl⟩, trivial⟩) rfl rfl rfl 41 zPt _ (run_allocQ rfl zPt_run wn) rfl zPt_p hK'
              · exact hi.elim
            · intro fuel an w6 hf hI
              obtain ⟨vr5_0, hvr5_0, ar5_0, rfl, hCr5_0⟩ := hI.haveQ 0 _ 26 (.like (IsC 20 RP [some eB])) rfl rfl rfl rfl
              obtain ⟨vr5_1, hvr5_1, hsr5_1⟩ := hI.haveQ 1 _ 27 (.val (.agg (numsA .u8 k))) rfl rfl rfl rfl
              obtain rfl := hsr5_1
              obtain ⟨vr5_2, hvr5_2, ar5_2, rfl, hCr5_2⟩ := hI.haveQ 2 _ 28 (.like (IsC 20 RP [some (eB.times (expo k))])) rfl rfl rfl rfl
              obtain ⟨vr5_3, hvr5_3, br5_3, zr5_3, rfl, hnr5_3, hbr5_3, hzr5_3⟩ := hI.haveQ 3 _ 7 (.blk ptrTo 41 (Ch 20 RP [none])) rfl rfl rfl rfl
              have hupd := hI.upd
              have ha := hI.act [(26, .agg ar5_0), (27, .agg (numsA .u8 k)), (28, .agg ar5_2), (7, ptrTo br5_3)] (by simp [hvr5_0, hvr5_1, hvr5_2, hvr5_3]) (by kernel_rfl)
              clear hI hvr5_0 hvr5_1 hvr5_2 hvr5_3
              subst ha
              simp only [List.foldl_cons, List.foldl_nil, List.setIfInBounds_toArray, List.set_cons_zero, List.set_cons_succ]
              have hner5_3_Bxr0y0_4 := Lib.hid (show br5_3 ≠ br0_0 from Nat.ne_of_gt (Nat.lt_of_lt_of_le Bxr0y0_4.out.lt hnr5_3))
              have hner5_3_Bxr0y1_4 := Lib.hid (show br5_3 ≠ br0_1 from Nat.ne_of_gt (Nat.lt_of_lt_of_le Bxr0y1_4.out.lt hnr5_3))
              have hner5_3_Bxr2y5_4 := Lib.hid (show br5_3 ≠ br2_5 from Nat.ne_of_gt (Nat.lt_of_lt_of_le Bxr2y5_4.out.lt hnr5_3))
              have hger5_3 := Lib.hid (Nat.le_trans HU4.out.size hnr5_3)
              have Bxr0y0_5 := Lib.hid (hupd.blk (show Blk w5.drew br0_0 23 (numsA .u8 a) from Bxr0y0_4.out) (fun h => h))
              have Bxr0y1_5 := Lib.hid (hupd.blk (show Blk w5.drew br0_1 23 (numsA .u8 k) from Bxr0y1_4.out) (fun h => h))
              have Bxr2y5_5 := Lib.hid (hupd.blk (show Blk w5.drew br2_5 41 ar2_3 from Bxr2y5_4.out) (fun h => h))
              have Bxr5y3 := Lib.hid hbr5_3
              have HU5 := Lib.hid (HU4.out.drew.trans hupd)
              clear hupd
              have hf0 : left #[true, true, true, true, false] 5 = 1 := by kernel_rfl
              have hf1 : left #[true, true, true, true, false] 5 ≤ fuel := hf
              obtain ⟨fu, rfl⟩ : ∃ fu, fuel = fu + 1 := ⟨fuel - 1, by omega⟩
              clear hf hf0 hf1
              refine wpAny_storeQ 4 rfl (by kernel_rfl) rfl rfl 41 (.tmp 7) (.tmp 28) rfl br5_3 0 20 rfl ar5_2 rfl 41 zr5_3 Bxr5y3.out szPt hCr5_2.size (by rw [hzr5_3.size]; exact Nat.le_of_ble_eq_true rfl) hCr5_2.one' ?_
              intro ws5_0 hs5_0 hus5_0
              rw [splice_all _ _ 20 hzr5_3.size hCr5_2.size] at hs5_0
              have Bxr0y0_s5_0 := Lib.hid (hus5_0.blk Bxr0y0_5.out (fun e => hner5_3_Bxr0y0_4.out e.symm))
              have Bxr0y1_s5_0 := Lib.hid (hus5_0.blk Bxr0y1_5.out (fun e => hner5_3_Bxr0y1_4.out e.symm))
              have Bxr2y5_s5_0 := Lib.hid (hus5_0.blk Bxr2y5_5.out (fun e => hner5_3_Bxr2y5_4.out e.symm))
              have Bxr5y3_s5_0 := Lib.hid hs5_0
              have HU5_0 := Lib.hid (HU5.out.step hus5_0 (fun i hi h => absurd hi (Nat.not_lt.2 (h.symm ▸ hger5_3.out))))
              clear hs5_0 hus5_0
              refine wpAny_done (by kernel_rfl) ?_ _
              refine hK8 _ _ ?_
              clear hK8
              refine wp_seq_k fun K9 hK9 => ?_
              refine wp_region_qS 7 #[true, true, true, true, true, true, true, false] [7] ([.val (.agg ar2_3), .val (.agg ar5_2), .blk (fun b => .slice (some ⟨b, 0, none⟩) 2 2) 41 (Ch 20 RP [some eP, some (eB.times (expo k))]), .like (IsC 20 RP [some (eP.plus (eB.times (expo k)))]), .val (.agg (numsA .u8 keyT0)), .like (IsC 20 RP [some ((eP.plus (eB.times (expo k))).times (expo keyT0))]), .blk ptrTo 41 (Ch 20 RP [none]), .val undef] : List SQ) (by kernel_rfl) (by kernel_rfl) (by kernel_rfl) ?_ ?_
              · intro i o listed an wn ho hls hst hun hdep hI hpre K' hK'
                have hi : i = 0 ∨ i = 1 ∨ i = 2 ∨ i = 3 ∨ i = 4 ∨ i = 5 ∨ i = 6 ∨ False := slot_cases (l := [0, 1, 2, 3, 4, 5, 6]) rfl ho hst
                rcases hi with rfl | rfl | rfl | rfl | rfl | rfl | rfl | hi
                · obtain rfl := Option.some.inj ho
                  have hvp : an.eval (.tmp 5) = ptrTo br2_5 := hI.oldQ (by kernel_rfl) rfl
                  exact hI.pureQ (by kernel_rfl) hls rfl rfl rfl _ (run_loadQ rfl hvp wn (hI.upd.blk (show Blk ws5_0 br2_5 41 ar2_3 from Bxr2y5_s5_0.out) (fun h => h)) Tryd.underlying41 rfl szPt (by rw [hCr2_3.size]; exact Nat.le_of_ble_eq_true rfl)) (.val (.agg ar2_3)) rfl (congrArg Value.agg (extract_all _ 20 hCr2_3.size)) rfl hK'
                · obtain rfl := Option.some.inj ho
                  have hvp : an.eval (.tmp 7) = ptrTo br5_3 := hI.oldQ (by kernel_rfl) rfl
                  exact hI.pureQ (by kernel_rfl) hls rfl rfl rfl _ (run_loadQ rfl hvp wn (hI.upd.blk (show Blk ws5_0 br5_3 41 ar5_2 from Bxr5y3_s5_0.out) (fun h => h)) Tryd.underlying41 rfl szPt (by rw [hCr5_2.size]; exact Nat.le_of_ble_eq_true rfl)) (.val (.agg ar5_2)) rfl (congrArg Value.agg (extract_all _ 20 hCr5_2.size)) rfl hK'
                · obtain rfl := Option.some.inj ho
                  obtain ⟨vp, hvp, hsp⟩ := hI.haveQ 0 _ 29 (.val (.agg ar2_3)) rfl rfl rfl (hdep ⟨0, .data⟩ (by simp) rfl)
                  obtain rfl := hsp
                  obtain ⟨vq, hvq, hsq⟩ := hI.haveQ 1 _ 30 (.val (.agg ar5_2)) rfl rfl rfl (hdep ⟨1, .data⟩ (by simp) rfl)
                  obtain rfl := hsq
                  exact hI.rowQ (by kernel_rfl) hls (Nat.le_refl _) rfl rfl rfl _ _ _ _ (run_pts2 rfl (eval_of hvp) (eval_of hvq) hCr2_3.size hCr5_2.size wn) rfl (hCr2_3.cat hCr5_2) rfl hK'
                · obtain rfl := Option.some.inj ho
                  obtain ⟨vp, hvp, bp, zp, rfl, hnp, hbp, hzp⟩ := hI.haveQ 2 _ 31 (.blk (fun b => .slice (some ⟨b, 0, none⟩) 2 2) 41 (Ch 20 RP [some eP, some (eB.times (expo k))])) rfl rfl rfl (hdep ⟨2, .data⟩ (by simp) rfl)
                  exact hI.callQ (by kernel_rfl) hls rfl rfl rfl 28 #[.tmp 31] _ rfl #[.slice (some ⟨bp, 0, none⟩) 2 2] (by simp [eval_of hvp]) (run_enter Tryd.func28 (by kernel_rfl) (by kernel_rfl)) (.like (IsC 20 RP [some (eP.plus (eB.times (expo k)))])) rfl rfl ((addR2 _ (HT.out.upd (HU5_0.out.trans hI.upd)) hbp hzp).mono fun _ _ h => h.sq) hK'
                · obtain rfl := Option.some.inj ho
                  exact hI.pureQ (by kernel_rfl) hls rfl rfl rfl (.agg (numsA .u8 keyT0)) (keyT0_run rfl wn) (.val (.agg (numsA .u8 keyT0))) rfl rfl rfl hK'
                · obtain rfl := Option.some.inj ho
                  obtain ⟨vp, hvp, ap, rfl, hCp⟩ := hI.haveQ 3 _ 32 (.like (IsC 20 RP [some (eP.plus (eB.times (expo k)))])) rfl rfl rfl (hdep ⟨3, .data⟩ (by simp) rfl)
                  obtain ⟨vq, hvq, hsq⟩ := hI.haveQ 4 _ 33 (.val (.agg (numsA .u8 keyT0))) rfl rfl rfl (hdep ⟨4, .data⟩ (by simp) rfl)
                  obtain rfl := hsq
                  exact hI.callQ (by kernel_rfl) hls rfl rfl rfl 36 #[.tmp 32, .tmp 33] _ rfl #[.agg ap, .agg (numsA .u8 keyT0)] (by simp [eval_of hvp, eval_of hvq]) (run_enter Tryd.func36 (by kernel_rfl) (by kernel_rfl)) (.like (IsC 20 RP [some ((eP.plus (eB.times (expo k))).times (expo keyT0))])) rfl rfl ((multiplyR _ (HT.out.upd (HU5_0.out.trans hI.upd)) hCp keyT0_length keyT0_digs).mono fun _ _ h => h.sq) hK'
                · obtain rfl := Option.some.inj ho
                  exact hI.newQ (by kernel_rfl) hls (Nat.le_refl _) (newsQ_spec (l := [6]) (by kernel_rfl) ⟨⟨_, _, rfl⟩, trivial⟩) rfl rfl rfl 41 zPt _ (run_allocQ rfl zPt_run wn) rfl zPt_p hK'
                · exact hi.elim
              · intro an w7 hI
                obtain ⟨vr6_0, hvr6_0, hsr6_0⟩ := hI.haveQ 0 _ 29 (.val (.agg ar2_3)) rfl rfl rfl rfl
                obtain rfl := hsr6_0
                obtain ⟨vr6_1, hvr6_1, hsr6_1⟩ := hI.haveQ 1 _ 30 (.val (.agg ar5_2)) rfl rfl rfl rfl
                obtain rfl := hsr6_1
                obtain ⟨vr6_2, hvr6_2, br6_2, zr6_2, rfl, hnr6_2, hbr6_2, hzr6_2⟩ := hI.haveQ 2 _ 31 (.blk (fun b => .slice (some ⟨b, 0, none⟩) 2 2) 41 (Ch 20 RP [some eP, some (eB.times (expo k))])) rfl rfl rfl rfl
                obtain ⟨vr6_3, hvr6_3, ar6_3, rfl, hCr6_3⟩ := hI.haveQ 3 _ 32 (.like (IsC 20 RP [some (eP.plus (eB.times (expo k)))])) rfl rfl rfl rfl
                obtain ⟨vr6_4, hvr6_4, hsr6_4⟩ := hI.haveQ 4 _ 33 (.val (.agg (numsA .u8 keyT0))) rfl rfl rfl rfl
                obtain rfl := hsr6_4
                obtain ⟨vr6_5, hvr6_5, ar6_5, rfl, hCr6_5⟩ := hI.haveQ 5 _ 34 (.like (IsC 20 RP [some ((eP.plus (eB.times (expo k))).times (expo keyT0))])) rfl rfl rfl rfl
                obtain ⟨vr6_6, hvr6_6, br6_6, zr6_6, rfl, hnr6_6, hbr6_6, hzr6_6⟩ := hI.haveQ 6 _ 8 (.blk ptrTo 41 (Ch 20 RP [none])) rfl rfl rfl rfl
                have hupd := hI.upd
                have ha := hI.act [(29, .agg ar2_3), (30, .agg ar5_2), (31, .slice (some ⟨br6_2, 0, none⟩) 2 2), (32, .agg ar6_3), (33, .agg (numsA .u8 keyT0)), (34, .agg ar6_5), (8, ptrTo br6_6)] (by simp [hvr6_0, hvr6_1, hvr6_2, hvr6_3, hvr6_4, hvr6_5, hvr6_6]) (by kernel_rfl)
                clear hI hvr6_0 hvr6_1 hvr6_2 hvr6_3 hvr6_4 hvr6_5 hvr6_6
                subst ha
                simp only [List.foldl_cons, List.foldl_nil, List.setIfInBounds_toArray, List.set_cons_zero, List.set_cons_succ]
                have hner6_6_Bxr0y0_s5_0 := Lib.hid (show br6_6 ≠ br0_0 from Nat.ne_of_gt (Nat.lt_of_lt_of_le Bxr0y0_s5_0.out.lt hnr6_6))
                have hner6_6_Bxr0y1_s5_0 := Lib.hid (show br6_6 ≠ br0_1 from Nat.ne_of_gt (Nat.lt_of_lt_of_le Bxr0y1_s5_0.out.lt hnr6_6))
                have hner6_6_Bxr2y5_s5_0 := Lib.hid (show br6_6 ≠ br2_5 from Nat.ne_of_gt (Nat.lt_of_lt_of_le Bxr2y5_s5_0.out.lt hnr6_6))
                have hner6_6_Bxr5y3_s5_0 := Lib.hid (show br6_6 ≠ br5_3 from Nat.ne_of_gt (Nat.lt_of_lt_of_le Bxr5y3_s5_0.out.lt hnr6_6))
                have hger6_6 := Lib.hid (Nat.le_trans HU5_0.out.size hnr6_6)
                have Bxr0y0_6 := Lib.hid (hupd.blk (show Blk ws5_0 br0_0 23 (numsA .u8 a) from Bxr0y0_s5_0.out) (fun h => h))
                have Bxr0y1_6 := Lib.hid (hupd.blk (show Blk ws5_0 br0_1 23 (numsA .u8 k) from Bxr0y1_s5_0.out) (fun h => h))
                have Bxr2y5_6 := Lib.hid (hupd.blk (show Blk ws5_0 br2_5 41 ar2_3 from Bxr2y5_s5_0.out) (fun h => h))
                have Bxr5y3_6 := Lib.hid (hupd.blk (show Blk ws5_0 br5_3 41 ar5_2 from Bxr5y3_s5_0.out) (fun h => h))
                have Bxr6y6 := Lib.hid hbr6_6
                have HU6 := Lib.hid (HU5_0.out.trans hupd)
                clear hupd
                refine wpOps_storeQ 7 rfl rfl rfl 41 (.tmp 8) (.tmp 34) rfl br6_6 0 20 rfl ar6_5 rfl 41 zr6_6 Bxr6y6.out szPt hCr6_5.size (by rw [hzr6_6.size]; exact Nat.le_of_ble_eq_true rfl) hCr6_5.one' ?_
                intro ws6_0 hs6_0 hus6_0
                rw [splice_all _ _ 20 hzr6_6.size hCr6_5.size] at hs6_0
                have Bxr0y0_s6_0 := Lib.hid (hus6_0.blk Bxr0y0_6.out (fun e => hner6_6_Bxr0y0_s5_0.out e.symm))
                have Bxr0y1_s6_0 := Lib.hid (hus6_0.blk Bxr0y1_6.out (fun e => hner6_6_Bxr0y1_s5_0.out e.symm))
                have Bxr2y5_s6_0 := Lib.hid (hus6_0.blk Bxr2y5_6.out (fun e => hner6_6_Bxr2y5_s5_0.out e.symm))
                have Bxr5y3_s6_0 := Lib.hid (hus6_0.blk Bxr5y3_6.out (fun e => hner6_6_Bxr5y3_s5_0.out e.symm))
                have Bxr6y6_s6_0 := Lib.hid hs6_0
                have HU6_0 := Lib.hid (HU6.out.step hus6_0 (fun i hi h => absurd hi (Nat.not_lt.2 (h.symm ▸ hger6_6.out))))
                clear hs6_0 hus6_0
                refine wpOps_nil ?_
                refine hK9 _ _ ?_
                clear hK9
                refine wp_seq_k fun K10 hK10 => ?_
                refine wp_region_q #[true, true, true, true, true, true, true, true, true, true, true] ([.val (.agg ar2_3), .val (.bool false), .val (.bool true), .val (.bool true), .val undef, .val undef, .val undef, .val undef, .val undef, .val (.bool true), .val (.bool true)] : List SQ) (by kernel_rfl) (by kernel_rfl) (by kernel_rfl) ?_ ?_
                · intro i o listed an wn ho hls hst hun hdep hI K' hK'
                  have hi : i = 0 ∨ i = 1 ∨ i = 2 ∨ i = 3 ∨ i = 4 ∨ i = 5 ∨ i = 6 ∨ i = 7 ∨ i = 8 ∨ i = 9 ∨ i = 10 ∨ False := slot_cases (l := [0, 1, 2, 3, 4, 5, 6, 7, 8, 9, 10]) rfl ho hst
                  rcases hi with rfl | rfl | rfl | rfl | rfl | rfl | rfl | rfl | rfl | rfl | rfl | hi
                  · obtain rfl := Option.some.inj ho
                    have hvp : an.eval (.tmp 5) = ptrTo br2_5 := hI.oldQ (by kernel_rfl) rfl
                    exact hI.pureQ (by kernel_rfl) hls rfl rfl rfl _ (run_loadQ rfl hvp wn (hI.upd.blk (show Blk ws6_0.drew br2_5 41 ar2_3 from Bxr2y5_s6_0.out) (fun h => h)) Tryd.underlying41 rfl szPt (by rw [hCr2_3.size]; exact Nat.le_of_ble_eq_true rfl)) (.val (.agg ar2_3)) rfl (congrArg Value.agg (extract_all _ 20 hCr2_3.size)) rfl hK'
                  · obtain rfl := Option.some.inj ho
                    obtain ⟨vp, hvp, hsp⟩ := hI.haveQ 0 _ 35 (.val (.agg ar2_3)) rfl rfl rfl (hdep ⟨0, .data⟩ (by simp) rfl)
                    obtain rfl := hsp
                    exact hI.callQ (by kernel_rfl) hls rfl rfl rfl 38 #[.tmp 35] _ rfl #[.agg ar2_3] (by simp [eval_of hvp]) (run_enter Tryd.func38 (by kernel_rfl) (by kernel_rfl)) (.val (.bool false)) rfl rfl ((tinyR _ (HT.out.upd (HU6_0.out.drew.trans hI.upd)) hCr2_3).mono fun _ _ h => ret_val (ret_b h hb)) hK'
                  · obtain rfl := Option.some.inj ho
                    obtain ⟨vp, hvp, hsp⟩ := hI.haveQ 1 _ 36 (.val (.bool false)) rfl rfl rfl (hdep ⟨1, .data⟩ (by simp) rfl)
                    obtain rfl := hsp
                    exact hI.pureQ (by kernel_rfl) hls rfl rfl rfl (.bool true) (run_not rfl (eval_of hvp) wn) (.val (.bool true)) rfl rfl rfl hK'
                  · obtain rfl := Option.some.inj ho
                    obtain ⟨vp, hvp, hsp⟩ := hI.haveQ 2 _ 37 (.val (.bool true)) rfl rfl rfl (hdep ⟨2, .data⟩ (by simp) rfl)
                    obtain rfl := hsp
                    exact hI.pureQ (by kernel_rfl) hls rfl rfl rfl (.bool true) (run_moveQ (.inl rfl) (eval_of hvp) wn) (.val (.bool true)) rfl rfl rfl hK'
                  · obtain rfl := Option.some.inj ho
                    obtain ⟨vg, hvg, hsg⟩ := hI.haveQ 3 _ 38 (.val (.bool true)) rfl rfl rfl (hdep ⟨3, .guard⟩ (by simp) rfl)
                    obtain rfl := hsg
                    exact hI.skipQ (by kernel_rfl) hls rfl (wanted_notQ rfl rfl rfl hvg rfl) rfl rfl rfl hK'
                  · obtain rfl := Option.some.inj ho
                    obtain ⟨vg, hvg, hsg⟩ := hI.haveQ 3 _ 38 (.val (.bool true)) rfl rfl rfl (hdep ⟨3, .guard⟩ (by simp) rfl)
                    obtain rfl := hsg
                    exact hI.skipQ (by kernel_rfl) hls rfl (wanted_notQ rfl rfl rfl hvg rfl) rfl rfl rfl hK'
                  · obtain rfl := Option.some.inj ho
                    obtain ⟨vg, hvg, hsg⟩ := hI.haveQ 3 _ 38 (.val (.bool true)) rfl rfl rfl (hdep ⟨3, .guard⟩ (by simp) rfl)
                    obtain rfl := hsg
                    exact hI.skipQ (by kernel_rfl) hls rfl (wanted_notQ rfl rfl rfl hvg rfl) rfl rfl rfl hK'
                  · obtain rfl := Option.some.inj ho
                    obtain ⟨vg, hvg, hsg⟩ := hI.haveQ 3 _ 38 (.val (.bool true)) rfl rfl rfl (hdep ⟨3, .guard⟩ (by simp) rfl)
                    obtain rfl := hsg
                    exact hI.skipQ (by kernel_rfl) hls rfl (wanted_notQ rfl rfl rfl hvg rfl) rfl rfl rfl hK'
                  · obtain rfl := Option.some.inj ho
                    obtain ⟨vg, hvg, hsg⟩ := hI.haveQ 3 _ 38 (.val (.bool true)) rfl rfl rfl (hdep ⟨3, .guard⟩ (by simp) rfl)
                    obtain rfl := hsg
                    exact hI.skipQ (by kernel_rfl) hls rfl (wanted_notQ rfl rfl rfl hvg rfl) rfl rfl rfl hK'
                  · obtain rfl := Option.some.inj ho
                    obtain ⟨vp, hvp, hsp⟩ := hI.haveQ 3 _ 38 (.val (.bool true)) rfl rfl rfl (hdep ⟨3, .data⟩ (by simp) rfl)
                    obtain rfl := hsp
                    exact hI.pureQ (by kernel_rfl) hls rfl rfl rfl (.bool true) (run_pickT rfl (eval_of hvp) (show an.eval (.const (.bool true)) = .bool true from rfl) wn) (.val (.bool true)) rfl rfl rfl hK'
                  · obtain rfl := Option.some.inj ho
                    obtain ⟨vp, hvp, hsp⟩ := hI.haveQ 9 _ 44 (.val (.bool true)) rfl rfl rfl (hdep ⟨9, .data⟩ (by simp) rfl)
                    obtain rfl := hsp
                    exact hI.pureQ (by kernel_rfl) hls rfl rfl rfl (.bool true) (run_moveQ (.inr rfl) (eval_of hvp) wn) (.val (.bool true)) rfl rfl rfl hK'
                  · exact hi.elim
                · intro fuel an w8 hf hI
                  obtain ⟨vr7_0, hvr7_0, hsr7_0⟩ := hI.haveQ 0 _ 35 (.val (.agg ar2_3)) rfl rfl rfl rfl
                  obtain rfl := hsr7_0
                  obtain ⟨vr7_1, hvr7_1, hsr7_1⟩ := hI.haveQ 1 _ 36 (.val (.bool false)) rfl rfl rfl rfl
                  obtain rfl := hsr7_1
                  obtain ⟨vr7_2, hvr7_2, hsr7_2⟩ := hI.haveQ 2 _ 37 (.val (.bool true)) rfl rfl rfl rfl
                  obtain rfl := hsr7_2
                  obtain ⟨vr7_3, hvr7_3, hsr7_3⟩ := hI.haveQ 3 _ 38 (.val (.bool true)) rfl rfl rfl rfl
                  obtain rfl := hsr7_3
                  obtain ⟨vr7_4, hvr7_4, hsr7_4⟩ := hI.haveQ 4 _ 39 (.val undef) rfl rfl rfl rfl
                  obtain rfl := hsr7_4
                  obtain ⟨vr7_5, hvr7_5, hsr7_5⟩ := hI.haveQ 5 _ 40 (.val undef) rfl rfl rfl rfl
                  obtain rfl := hsr7_5
                  obtain ⟨vr7_6, hvr7_6, hsr7_6⟩ := hI.haveQ 6 _ 41 (.val undef) rfl rfl rfl rfl
                  obtain rfl := hsr7_6
                  obtain ⟨vr7_7, hvr7_7, hsr7_7⟩ := hI.haveQ 7 _ 42 (.val undef) rfl rfl rfl rfl
                  obtain rfl := hsr7_7
                  obtain ⟨vr7_8, hvr7_8, hsr7_8⟩ := hI.haveQ 8 _ 43 (.val undef) rfl rfl rfl rfl
                  obtain rfl := hsr7_8
                  obtain ⟨vr7_9, hvr7_9, hsr7_9⟩ := hI.haveQ 9 _ 44 (.val (.bool true)) rfl rfl rfl rfl
                  obtain rfl := hsr7_9
                  obtain ⟨vr7_10, hvr7_10, hsr7_10⟩ := hI.haveQ 10 _ 4 (.val (.bool true)) rfl rfl rfl rfl
                  obtain rfl := hsr7_10
                  have hupd := hI.upd
                  have ha := hI.act [(35, .agg ar2_3), (36, .bool false), (37, .bool true), (38, .bool true), (39, undef), (40, undef), (41, undef), (42, undef), (43, undef), (44, .bool true), (4, .bool true)] (by simp [hvr7_0, hvr7_1, hvr7_2, hvr7_3, hvr7_4, hvr7_5, hvr7_6, hvr7_7, hvr7_8, hvr7_9, hvr7_10]) (by kernel_rfl)
                  clear hI hvr7_0 hvr7_1 hvr7_2 hvr7_3 hvr7_4 hvr7_5 hvr7_6 hvr7_7 hvr7_8 hvr7_9 hvr7_10
                  subst ha
                  simp only [List.foldl_cons, List.foldl_nil, List.setIfInBounds_toArray, List.set_cons_zero, List.set_cons_succ]
                  have Bxr0y0_7 := Lib.hid (hupd.blk (show Blk ws6_0.drew br0_0 23 (numsA .u8 a) from Bxr0y0_s6_0.out) (fun h => h))
                  have Bxr0y1_7 := Lib.hid (hupd.blk (show Blk ws6_0.drew br0_1 23 (numsA .u8 k) from Bxr0y1_s6_0.out) (fun h => h))
                  have Bxr2y5_7 := Lib.hid (hupd.blk (show Blk ws6_0.drew br2_5 41 ar2_3 from Bxr2y5_s6_0.out) (fun h => h))
                  have Bxr5y3_7 := Lib.hid (hupd.blk (show Blk ws6_0.drew br5_3 41 ar5_2 from Bxr5y3_s6_0.out) (fun h => h))
                  have Bxr6y6_7 := Lib.hid (hupd.blk (show Blk ws6_0.drew br6_6 41 ar6_5 from Bxr6y6_s6_0.out) (fun h => h))
                  have HU7 := Lib.hid (HU6_0.out.drew.trans hupd)
                  clear hupd
                  refine wpAny_done (by kernel_rfl) ?_ _
                  refine hK10 _ _ ?_
                  clear hK10
                  refine wp_ret ?_
                  try dsimp only [Exit.then]
                  try dsimp only [Exit.inBlock]
                  exact bodyPost_ret (v := .bool true) (results_tmpQ (fn := Tryd.f12) (t := 4) rfl _ _ (.bool true) rfl) rfl ⟨rfl, HU7.out⟩
theorem pointTiny_any {a k : List Int} (w : World) (hT : Tw w) (ha : a.length = 32) (da : Digs 256 a) (hl : k.length = 32) (hd : Digs 256 k) : Calls Tryd.prog 12 #[.agg (numsA .u8 a), .agg (numsA .u8 k)] w fun e w' => e = .returned (.bool true) ∧ Upd (fun _ => False) w w' := by
  by_cases h : ∃ e : EP, encP e = a
  · obtain ⟨e, he⟩ := h
    cases hb : edEq (e.times 8) EP.nil with
    | true => exact ptinyT w hT ha da hl hd he hb
    | false => exact ptinyF w hT ha da hl hd he hb
  · exact ptinyN w hT ha da (fun e he => h ⟨e, he⟩)
end Go.Proofs.YtdpafemcpbhlfaaDoor
