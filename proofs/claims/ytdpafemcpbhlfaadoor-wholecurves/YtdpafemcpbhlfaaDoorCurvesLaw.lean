/-
  The walk of WholeCurves.
-/
import Derived.Test.YtdpafemcpbhlfaaDoorPt5
import Derived.Test.YtdpafemcpbhlfaaDoorCurvesMath
namespace Go.Proofs.YtdpafemcpbhlfaaDoor
set_option maxRecDepth 100000
open Go.RowKit

def keyC0 : List Int := [1, 0, 0, 0, 0, 0, 0, 0, 0, 0, 0, 0, 0, 0, 0, 0, 0, 0, 0, 0, 0, 0, 0, 0, 0, 0, 0, 0, 0, 0, 0, 0]
theorem keyC0_length : keyC0.length = 32 := rfl
theorem keyC0_digs : Digs 256 keyC0 := digs_of_all (by decide)
theorem keyC0_run {o : Oper} {a : Act} (ho : o.op = .build 23 #[(0, .const (.int .u8 1))]) (w : World) : (execOp a.eval o).run Tryd.prog w = .ok (.value (.agg (numsA .u8 keyC0))) w := by
  have hb : (Instr.build 23 #[(0, .int .u8 1)]).run Tryd.prog w = .ok (.agg (numsA .u8 keyC0)) w := by kernel_rfl
  have hm : (#[(0, .const (.int .u8 1))] : Array (Nat × Operand)).map (fun (i, x) => (i, a.eval x)) = #[(0, .int .u8 1)] := by simp [Act.eval]
  unfold execOp
  simp only [ho]
  rw [hm, Sem.run_bind, hb]
  rfl
theorem curves_pub : decide (keyOf (ladV (clampL keyC0) (ofKey keyG0)) = zeroKL) = false := decide_eq_false fun h => by
  have h1 := (keyOf_eq_zero _).1 h
  have h2 := ladV_eval (clampL keyC0) (ofKey keyG0)
  rw [h1, show (ofKey keyG0).val = 9 by decide +kernel] at h2
  exact absurd h2 (by decide +kernel)
set_option maxHeartbeats 4000000 in
theorem wholeCurves_any {k : List Int} (w : World) (hT : Tw w) (hl : k.length = 32) (hd : Digs 256 k) :
    Calls Tryd.prog 15 #[.agg (numsA .u8 k)] w fun e w' => e = .returned (.bool true) ∧ Upd (fun _ => False) w w' := by
  have HT := Lib.hid hT
  clear hT
  have HU := Lib.hid (Upd.refl (fun _ => False) w)
  go_enter Tryd.func15, Tryd.ntmps15
  refine wp_seq_k fun K0 hK0 => ?_
  refine wp_region_qS 2 #[true, true] [] ([.blk ptrTo 23 (fun z => z = numsA .u8 k), .val (.bool false)] : List SQ) (by kernel_rfl) (by kernel_rfl) (by kernel_rfl) ?_ ?_
  · intro i o listed an wn ho hls hst hun hdep hI hpre K' hK'
    have hi : i = 0 ∨ i = 1 ∨ False := slot_cases (l := [0, 1]) rfl ho hst
    rcases hi with rfl | rfl | hi
    · obtain rfl := Option.some.inj ho
      have hvp : an.eval (.tmp 0) = .agg (numsA .u8 k) := hI.oldQ (by kernel_rfl) rfl
      exact hI.newQ (by kernel_rfl) hls (Nat.le_refl _) (newsQ_spec (l := [0]) (by kernel_rfl) ⟨⟨_, _, rfl⟩, trivial⟩) rfl rfl rfl 23 _ (fun z => z = numsA .u8 k) (run_boxQ rfl hvp wn) rfl rfl hK'
    · obtain rfl := Option.some.inj ho
      exact hI.pureQ (by kernel_rfl) hls rfl rfl rfl (.bool false) (run_moveQ (.inr rfl) (show an.eval (.const (.bool false)) = .bool false from rfl) wn) (.val (.bool false)) rfl rfl rfl hK'
    · exact hi.elim
  · intro an w1 hI
    obtain ⟨vr0_0, hvr0_0, br0_0, zr0_0, rfl, hnr0_0, hbr0_0, hzr0_0⟩ := hI.haveQ 0 _ 1 (.blk ptrTo 23 (fun z => z = numsA .u8 k)) rfl rfl rfl rfl
    rw [hzr0_0] at hbr0_0
    clear hzr0_0
    obtain ⟨vr0_1, hvr0_1, hsr0_1⟩ := hI.haveQ 1 _ 2 (.val (.bool false)) rfl rfl rfl rfl
    obtain rfl := hsr0_1
    have hupd := hI.upd
    have ha := hI.act [(1, ptrTo br0_0), (2, .bool false)] (by simp [hvr0_0, hvr0_1]) (by kernel_rfl)
    clear hI hvr0_0 hvr0_1
    subst ha
    simp only [List.foldl_cons, List.foldl_nil, List.setIfInBounds_toArray, List.set_cons_zero, List.set_cons_succ]
    have hger0_0 := Lib.hid (Nat.le_trans HU.out.size hnr0_0)
    have Bxr0y0 := Lib.hid hbr0_0
    have HU0 := Lib.hid (HU.out.trans hupd)
    clear hupd
    refine wpOps_nil ?_
    refine hK0 _ _ ?_
    clear hK0
    refine wp_seq_k fun K1 hK1 => ?_
    refine wp_region_qS 2 #[true, true, false] [2] ([.val (.agg (numsA .u8 k)), .val (.agg (numsA .u8 (clampL k))), .val undef] : List SQ) (by kernel_rfl) (by kernel_rfl) (by kernel_rfl) ?_ ?_
    · intro i o listed an wn ho hls hst hun hdep hI hpre K' hK'
      have hi : i = 0 ∨ i = 1 ∨ False := slot_cases (l := [0, 1]) rfl ho hst
      rcases hi with rfl | rfl | hi
      · obtain rfl := Option.some.inj ho
        have hvp : an.eval (.tmp 1) = ptrTo br0_0 := hI.oldQ (by kernel_rfl) rfl
        exact hI.pureQ (by kernel_rfl) hls rfl rfl rfl _ (run_loadQ rfl hvp wn (hI.upd.blk (show Blk w1 br0_0 23 (numsA .u8 k) from Bxr0y0.out) (fun h => h)) Tryd.underlying23 rfl sizeKey (by rw [numsA_size, hl]; omega)) (.val (.agg (numsA .u8 k))) rfl (congrArg Value.agg (extract_all _ 32 (by rw [numsA_size]; exact hl))) rfl hK'
      · obtain rfl := Option.some.inj ho
        obtain ⟨vp, hvp, hsp⟩ := hI.haveQ 0 _ 8 (.val (.agg (numsA .u8 k))) rfl rfl rfl (hdep ⟨0, .data⟩ (by simp) rfl)
        obtain rfl := hsp
        exact hI.callQ (by kernel_rfl) hls rfl rfl rfl 41 #[.tmp 8] _ rfl #[.agg (numsA .u8 k)] (by simp [eval_of hvp]) (run_enter Tryd.func41 (by kernel_rfl) (by kernel_rfl)) (.val (.agg (numsA .u8 (clampL k)))) rfl rfl ((clamp_any k _ hl hd).mono fun _ _ h => ret_val h) hK'
      · exact hi.elim
    · intro an w2 hI
      obtain ⟨vr1_0, hvr1_0, hsr1_0⟩ := hI.haveQ 0 _ 8 (.val (.agg (numsA .u8 k))) rfl rfl rfl rfl
      obtain rfl := hsr1_0
      obtain ⟨vr1_1, hvr1_1, hsr1_1⟩ := hI.haveQ 1 _ 9 (.val (.agg (numsA .u8 (clampL k)))) rfl rfl rfl rfl
      obtain rfl := hsr1_1
      have hupd := hI.upd
      have ha := hI.act [(8, .agg (numsA .u8 k)), (9, .agg (numsA .u8 (clampL k)))] (by simp [hvr1_0, hvr1_1]) (by kernel_rfl)
      clear hI hvr1_0 hvr1_1
      subst ha
      simp only [List.foldl_cons, List.foldl_nil, List.setIfInBounds_toArray, List.set_cons_zero, List.set_cons_succ]
      have Bxr0y0_1 := Lib.hid (hupd.blk (show Blk w1 br0_0 23 (numsA .u8 k) from Bxr0y0.out) (fun h => h))
      have HU1 := Lib.hid (HU0.out.trans hupd)
      clear hupd
      refine wpOps_storeQ 2 rfl rfl rfl 23 (.tmp 1) (.tmp 9) rfl br0_0 0 32 rfl (numsA .u8 (clampL k)) rfl 23 (numsA .u8 k) Bxr0y0_1.out sizeKey (by rw [numsA_size]; exact (clampL_length _).trans hl) (by rw [(show (numsA _ _).size = 32 by rw [numsA_size]; exact hl)]; exact Nat.le_of_ble_eq_true rfl) (numsA_one _ _) ?_
      intro ws1_0 hs1_0 hus1_0
      rw [splice_all _ _ 32 (show (numsA _ _).size = 32 by rw [numsA_size]; exact hl) (by rw [numsA_size]; exact (clampL_length _).trans hl)] at hs1_0
      have Bxr0y0_s1_0 := Lib.hid hs1_0
      have HU1_0 := Lib.hid (HU1.out.step hus1_0 (fun i hi h => absurd hi (Nat.not_lt.2 (h.symm ▸ hger0_0.out))))
      clear hs1_0 hus1_0
      refine wpOps_nil ?_
      refine hK1 _ _ ?_
      clear hK1
      refine wp_seq_k fun K2 hK2 => ?_
      refine wp_region_qS 3 #[true, true, true, false] [3] ([.like (IsC 20 RP [some eB]), .val (.agg (numsA .u8 (encP eB))), .blk ptrTo 23 (fun z => z = numsA .u8 zeroKL), .val undef] : List SQ) (by kernel_rfl) (by kernel_rfl) (by kernel_rfl) ?_ ?_
      · intro i o listed an wn ho hls hst hun hdep hI hpre K' hK'
        have hi : i = 0 ∨ i = 1 ∨ i = 2 ∨ False := slot_cases (l := [0, 1, 2]) rfl ho hst
        rcases hi with rfl | rfl | rfl | hi
        · obtain rfl := Option.some.inj ho
          exact hI.callQ (by kernel_rfl) hls rfl rfl rfl 34 #[] _ rfl #[] (by simp) (run_enter Tryd.func34 (by kernel_rfl) (by kernel_rfl)) (.like (IsC 20 RP [some eB])) rfl rfl ((baseR _ ).mono fun _ _ h => h.sq) hK'
        · obtain rfl := Option.some.inj ho
          obtain ⟨vp, hvp, ap, rfl, hCp⟩ := hI.haveQ 0 _ 10 (.like (IsC 20 RP [some eB])) rfl rfl rfl (hdep ⟨0, .data⟩ (by simp) rfl)
          exact hI.callQ (by kernel_rfl) hls rfl rfl rfl 26 #[.tmp 10] _ rfl #[.agg ap] (by simp [eval_of hvp]) (run_enter Tryd.func26 (by kernel_rfl) (by kernel_rfl)) (.val (.agg (numsA .u8 (encP eB)))) rfl rfl ((encodeR _ hCp).mono fun _ _ h => ret_val h) hK'
        · obtain rfl := Option.some.inj ho
          exact hI.newQ (by kernel_rfl) hls (Nat.le_refl _) (newsQ_spec (l := [2]) (by kernel_rfl) ⟨⟨_, _, rfl⟩, trivial⟩) rfl rfl rfl 23 _ (fun z => z = numsA .u8 zeroKL) (run_allocQ rfl zeroK_run wn) rfl rfl hK'
        · exact hi.elim
      · intro an w3 hI
        obtain ⟨vr2_0, hvr2_0, ar2_0, rfl, hCr2_0⟩ := hI.haveQ 0 _ 10 (.like (IsC 20 RP [some eB])) rfl rfl rfl rfl
        obtain ⟨vr2_1, hvr2_1, hsr2_1⟩ := hI.haveQ 1 _ 11 (.val (.agg (numsA .u8 (encP eB)))) rfl rfl rfl rfl
        obtain rfl := hsr2_1
        obtain ⟨vr2_2, hvr2_2, br2_2, zr2_2, rfl, hnr2_2, hbr2_2, hzr2_2⟩ := hI.haveQ 2 _ 3 (.blk ptrTo 23 (fun z => z = numsA .u8 zeroKL)) rfl rfl rfl rfl
        rw [hzr2_2] at hbr2_2
        clear hzr2_2
        have hupd := hI.upd
        have ha := hI.act [(10, .agg ar2_0), (11, .agg (numsA .u8 (encP eB))), (3, ptrTo br2_2)] (by simp [hvr2_0, hvr2_1, hvr2_2]) (by kernel_rfl)
        clear hI hvr2_0 hvr2_1 hvr2_2
        subst ha
        simp only [List.foldl_cons, List.foldl_nil, List.setIfInBounds_toArray, List.set_cons_zero, List.set_cons_succ]
        have hner2_2_Bxr0y0_s1_0 := Lib.hid (show br2_2 ≠ br0_0 from Nat.ne_of_gt (Nat.lt_of_lt_of_le Bxr0y0_s1_0.out.lt hnr2_2))
        have hger2_2 := Lib.hid (Nat.le_trans HU1_0.out.size hnr2_2)
        have Bxr0y0_2 := Lib.hid (hupd.blk (show Blk ws1_0 br0_0 23 (numsA .u8 (clampL k)) from Bxr0y0_s1_0.out) (fun h => h))
        have Bxr2y2 := Lib.hid hbr2_2
        have HU2 := Lib.hid (HU1_0.out.trans hupd)
        clear hupd
        refine wpOps_storeQ 3 rfl rfl rfl 23 (.tmp 3) (.tmp 11) rfl br2_2 0 32 rfl (numsA .u8 (encP eB)) rfl 23 (numsA .u8 zeroKL) Bxr2y2.out sizeKey (by rw [numsA_size]; exact encP_length _) (by rw [(show (numsA _ _).size = 32 by rw [numsA_size]; exact zeroKL_length)]; exact Nat.le_of_ble_eq_true rfl) (numsA_one _ _) ?_
        intro ws2_0 hs2_0 hus2_0
        rw [splice_all _ _ 32 (show (numsA _ _).size = 32 by rw [numsA_size]; exact zeroKL_length) (by rw [numsA_size]; exact encP_length _)] at hs2_0
        have Bxr0y0_s2_0 := Lib.hid (hus2_0.blk Bxr0y0_2.out (fun e => hner2_2_Bxr0y0_s1_0.out e.symm))
        have Bxr2y2_s2_0 := Lib.hid hs2_0
        have HU2_0 := Lib.hid (HU2.out.step hus2_0 (fun i hi h => absurd hi (Nat.not_lt.2 (h.symm ▸ hger2_2.out))))
        clear hs2_0 hus2_0
        refine wpOps_nil ?_
        refine hK2 _ _ ?_
        clear hK2
        refine wp_seq_k fun K3 hK3 => ?_
        refine wp_seq_k fun K4 hK4 => ?_
        refine wp_region_qS 9 #[true, true, true, true, true, true, true, true, true] [] ([.val (.pointer (some ⟨br2_2, 0 + 0, none⟩)), .val (.int .u8 ((encP eB).getD 0 0)), .val (.bool false), .val (.bool false), .val (.agg (numsA .u8 keyC0)), .val (.agg (numsA .u8 (keyOf (ladV (clampL keyC0) (ofKey keyG0))))), .val (.agg (numsA .u8 zeroKL)), .val (.bool false), .val (.bool false)] : List SQ) (by kernel_rfl) (by kernel_rfl) (by kernel_rfl) ?_ ?_
        · intro i o listed an wn ho hls hst hun hdep hI hpre K' hK'
          have hi : i = 0 ∨ i = 1 ∨ i = 2 ∨ i = 3 ∨ i = 4 ∨ i = 5 ∨ i = 6 ∨ i = 7 ∨ i = 8 ∨ False := slot_cases (l := [0, 1, 2, 3, 4, 5, 6, 7, 8]) rfl ho hst
          rcases hi with rfl | rfl | rfl | rfl | rfl | rfl | rfl | rfl | rfl | hi
          · obtain rfl := Option.some.inj ho
            have hvp : an.eval (.tmp 3) = ptrTo br2_2 := hI.oldQ (by kernel_rfl) rfl
            exact hI.pureQ (by kernel_rfl) hls rfl rfl rfl (.pointer (some ⟨br2_2, 0 + 0, none⟩)) (run_adr (off := 0) (i := 0) rfl Tryd.underlying23 size5 hvp rfl (by omega) wn) (.val (.pointer (some ⟨br2_2, 0 + 0, none⟩))) rfl rfl rfl hK'
          · obtain rfl := Option.some.inj ho
            obtain ⟨vp, hvp, hsp⟩ := hI.haveQ 0 _ 12 (.val (.pointer (some ⟨br2_2, 0 + 0, none⟩))) rfl rfl rfl (hdep ⟨0, .data⟩ (by simp) rfl)
            obtain rfl := hsp
            exact hI.pureQ (by kernel_rfl) hls rfl rfl rfl (.int .u8 ((encP eB).getD 0 0)) (run_cellQ rfl Tryd.underlying5 (eval_of hvp) wn (hI.upd.blk (show Blk ws2_0 br2_2 23 (numsA .u8 (encP eB)) from Bxr2y2_s2_0.out) (fun h => h)) (by rw [Nat.zero_add]; exact numsA_get _ _ _ (by rw [encP_length _]; omega))) (.val (.int .u8 ((encP eB).getD 0 0))) rfl rfl rfl hK'
          · obtain rfl := Option.some.inj ho
            obtain ⟨vp, hvp, hsp⟩ := hI.haveQ 1 _ 13 (.val (.int .u8 ((encP eB).getD 0 0))) rfl rfl rfl (hdep ⟨1, .data⟩ (by simp) rfl)
            obtain rfl := hsp
            exact hI.pureQ (by kernel_rfl) hls rfl rfl rfl (.bool false) (run_neq rfl (eval_of hvp) rfl (ne_of_eqB base_b0) wn) (.val (.bool false)) rfl rfl rfl hK'
          · obtain rfl := Option.some.inj ho
            obtain ⟨vp, hvp, hsp⟩ := hI.haveQ 2 _ 14 (.val (.bool false)) rfl rfl rfl (hdep ⟨2, .data⟩ (by simp) rfl)
            obtain rfl := hsp
            exact hI.pureQ (by kernel_rfl) hls rfl rfl rfl (.bool false) (run_moveQ (.inl rfl) (eval_of hvp) wn) (.val (.bool false)) rfl rfl rfl hK'
          · obtain rfl := Option.some.inj ho
            obtain ⟨vg, hvg, hsg⟩ := hI.haveQ 3 _ 15 (.val (.bool false)) rfl rfl rfl (hdep ⟨3, .guard⟩ (by simp) rfl)
            obtain rfl := hsg
            exact hI.pureQ (by kernel_rfl) hls rfl (wanted_of rfl rfl rfl hvg) rfl (.agg (numsA .u8 keyC0)) (keyC0_run rfl wn) (.val (.agg (numsA .u8 keyC0))) rfl rfl rfl hK'
          · obtain rfl := Option.some.inj ho
            obtain ⟨vg, hvg, hsg⟩ := hI.haveQ 3 _ 15 (.val (.bool false)) rfl rfl rfl (hdep ⟨3, .guard⟩ (by simp) rfl)
            obtain rfl := hsg
            obtain ⟨vp, hvp, hsp⟩ := hI.haveQ 4 _ 16 (.val (.agg (numsA .u8 keyC0))) rfl rfl rfl (hdep ⟨4, .data⟩ (by simp) rfl)
            obtain rfl := hsp
            exact hI.callQ (by kernel_rfl) hls rfl (wanted_of rfl rfl rfl hvg) rfl 21 #[.tmp 16] _ rfl #[.agg (numsA .u8 keyC0)] (by simp [eval_of hvp]) (run_enter Tryd.func21 (by kernel_rfl) (by kernel_rfl)) (.val (.agg (numsA .u8 (keyOf (ladV (clampL keyC0) (ofKey keyG0)))))) rfl rfl ((publicL _ (HT.out.upd (HU2_0.out.trans hI.upd)) keyC0_length keyC0_digs).mono fun _ _ h => ret_val h) hK'
          · obtain rfl := Option.some.inj ho
            obtain ⟨vg, hvg, hsg⟩ := hI.haveQ 3 _ 15 (.val (.bool false)) rfl rfl rfl (hdep ⟨3, .guard⟩ (by simp) rfl)
            obtain rfl := hsg
            exact hI.pureQ (by kernel_rfl) hls rfl (wanted_of rfl rfl rfl hvg) rfl (.agg (numsA .u8 zeroKL)) (zeroKL_bld rfl wn) (.val (.agg (numsA .u8 zeroKL))) rfl rfl rfl hK'
          · obtain rfl := Option.some.inj ho
            obtain ⟨vg, hvg, hsg⟩ := hI.haveQ 3 _ 15 (.val (.bool false)) rfl rfl rfl (hdep ⟨3, .guard⟩ (by simp) rfl)
            obtain rfl := hsg
            obtain ⟨vp, hvp, hsp⟩ := hI.haveQ 5 _ 17 (.val (.agg (numsA .u8 (keyOf (ladV (clampL keyC0) (ofKey keyG0)))))) rfl rfl rfl (hdep ⟨5, .data⟩ (by simp) rfl)
            obtain rfl := hsp
            obtain ⟨vq, hvq, hsq⟩ := hI.haveQ 6 _ 18 (.val (.agg (numsA .u8 zeroKL))) rfl rfl rfl (hdep ⟨6, .data⟩ (by simp) rfl)
            obtain rfl := hsq
            exact hI.pureQ (by kernel_rfl) hls rfl (wanted_of rfl rfl rfl hvg) rfl (.bool false) (run_eqlK (b := false) rfl (eval_of hvp) (eval_of hvq) (keyOf_length _) zeroKL_length curves_pub wn) (.val (.bool false)) rfl rfl rfl hK'
          · obtain rfl := Option.some.inj ho
            obtain ⟨vp, hvp, hsp⟩ := hI.haveQ 3 _ 15 (.val (.bool false)) rfl rfl rfl (hdep ⟨3, .data⟩ (by simp) rfl)
            obtain rfl := hsp
            obtain ⟨vq, hvq, hsq⟩ := hI.haveQ 7 _ 19 (.val (.bool false)) rfl rfl rfl (hdep ⟨7, .data⟩ (by simp) rfl)
            obtain rfl := hsq
            exact hI.pureQ (by kernel_rfl) hls rfl rfl rfl (.bool false) (run_pickF rfl (eval_of hvp) (eval_of hvq) wn) (.val (.bool false)) rfl rfl rfl hK'
          · exact hi.elim
        · intro an w4 hI
          obtain ⟨vr3_0, hvr3_0, hsr3_0⟩ := hI.haveQ 0 _ 12 (.val (.pointer (some ⟨br2_2, 0 + 0, none⟩))) rfl rfl rfl rfl
          obtain rfl := hsr3_0
          obtain ⟨vr3_1, hvr3_1, hsr3_1⟩ := hI.haveQ 1 _ 13 (.val (.int .u8 ((encP eB).getD 0 0))) rfl rfl rfl rfl
          obtain rfl := hsr3_1
          obtain ⟨vr3_2, hvr3_2, hsr3_2⟩ := hI.haveQ 2 _ 14 (.val (.bool false)) rfl rfl rfl rfl
          obtain rfl := hsr3_2
          obtain ⟨vr3_3, hvr3_3, hsr3_3⟩ := hI.haveQ 3 _ 15 (.val (.bool false)) rfl rfl rfl rfl
          obtain rfl := hsr3_3
          obtain ⟨vr3_4, hvr3_4, hsr3_4⟩ := hI.haveQ 4 _ 16 (.val (.agg (numsA .u8 keyC0))) rfl rfl rfl rfl
          obtain rfl := hsr3_4
          obtain ⟨vr3_5, hvr3_5, hsr3_5⟩ := hI.haveQ 5 _ 17 (.val (.agg (numsA .u8 (keyOf (ladV (clampL keyC0) (ofKey keyG0)))))) rfl rfl rfl rfl
          obtain rfl := hsr3_5
          obtain ⟨vr3_6, hvr3_6, hsr3_6⟩ := hI.haveQ 6 _ 18 (.val (.agg (numsA .u8 zeroKL))) rfl rfl rfl rfl
          obtain rfl := hsr3_6
          obtain ⟨vr3_7, hvr3_7, hsr3_7⟩ := hI.haveQ 7 _ 19 (.val (.bool false)) rfl rfl rfl rfl
          obtain rfl := hsr3_7
          obtain ⟨vr3_8, hvr3_8, hsr3_8⟩ := hI.haveQ 8 _ 20 (.val (.bool false)) rfl rfl rfl rfl
          obtain rfl := hsr3_8
          have hupd := hI.upd
          have ha := hI.act [(12, .pointer (some ⟨br2_2, 0 + 0, none⟩)), (13, .int .u8 ((encP eB).getD 0 0)), (14, .bool false), (15, .bool false), (16, .agg (numsA .u8 keyC0)), (17, .agg (numsA .u8 (keyOf (ladV (clampL keyC0) (ofKey keyG0))))), (18, .agg (numsA .u8 zeroKL)), (19, .bool false), (20, .bool false)] (by simp [hvr3_0, hvr3_1, hvr3_2, hvr3_3, hvr3_4, hvr3_5, hvr3_6, hvr3_7, hvr3_8]) (by kernel_rfl)
          clear hI hvr3_0 hvr3_1 hvr3_2 hvr3_3 hvr3_4 hvr3_5 hvr3_6 hvr3_7 hvr3_8
          subst ha
          simp only [List.foldl_cons, List.foldl_nil, List.setIfInBounds_toArray, List.set_cons_zero, List.set_cons_succ]
          have Bxr0y0_3 := Lib.hid (hupd.blk (show Blk ws2_0 br0_0 23 (numsA .u8 (clampL k)) from Bxr0y0_s2_0.out) (fun h => h))
          have Bxr2y2_3 := Lib.hid (hupd.blk (show Blk ws2_0 br2_2 23 (numsA .u8 (encP eB)) from Bxr2y2_s2_0.out) (fun h => h))
          have HU3 := Lib.hid (HU2_0.out.trans hupd)
          clear hupd
          refine wpOps_nil ?_
          refine hK4 _ _ ?_
          clear hK4
          refine wp_cond_false rfl ?_
          refine wp_skip ?_
          refine hK3 _ _ ?_
          clear hK3
          refine wp_seq_k fun K5 hK5 => ?_
          refine wp_region_q #[true, true, true, true, true, false] ([.like (IsC 20 RP [some eB]), .val (.agg (numsA .u8 (clampL k))), .like (IsC 20 RP [some (eB.times (expo (clampL k)))]), .val (.agg (numsA .u8 (encP (eB.times (expo (clampL k)))))), .blk ptrTo 23 (fun z => z = numsA .u8 zeroKL), .val undef] : List SQ) (by kernel_rfl) (by kernel_rfl) (by kernel_rfl) ?_ ?_
          · intro i o listed an wn ho hls hst hun hdep hI K' hK'
            have hi : i = 0 ∨ i = 1 ∨ i = 2 ∨ i = 3 ∨ i = 4 ∨ False := slot_cases (l := [0, 1, 2, 3, 4]) rfl ho hst
            rcases hi with rfl | rfl | rfl | rfl | rfl | hi
            · obtain rfl := Option.some.inj ho
              exact hI.callQ (by kernel_rfl) hls rfl rfl rfl 34 #[] _ rfl #[] (by simp) (run_enter Tryd.func34 (by kernel_rfl) (by kernel_rfl)) (.like (IsC 20 RP [some eB])) rfl rfl ((baseR _ ).mono fun _ _ h => h.sq) hK'
            · obtain rfl := Option.some.inj ho
              have hvp : an.eval (.tmp 1) = ptrTo br0_0 := hI.oldQ (by kernel_rfl) rfl
              exact hI.pureQ (by kernel_rfl) hls rfl rfl rfl _ (run_loadQ rfl hvp wn (hI.upd.blk (show Blk w4.drew br0_0 23 (numsA .u8 (clampL k)) from Bxr0y0_3.out) (fun h => h)) Tryd.underlying23 rfl sizeKey (by rw [numsA_size, (clampL_length _).trans hl]; omega)) (.val (.agg (numsA .u8 (clampL k)))) rfl (congrArg Value.agg (extract_all _ 32 (by rw [numsA_size]; exact (clampL_length _).trans hl))) rfl hK'
            · obtain rfl := Option.some.inj ho
              obtain ⟨vp, hvp, ap, rfl, hCp⟩ := hI.haveQ 0 _ 21 (.like (IsC 20 RP [some eB])) rfl rfl rfl (hdep ⟨0, .data⟩ (by simp) rfl)
              obtain ⟨vq, hvq, hsq⟩ := hI.haveQ 1 _ 22 (.val (.agg (numsA .u8 (clampL k)))) rfl rfl rfl (hdep ⟨1, .data⟩ (by simp) rfl)
              obtain rfl := hsq
              exact hI.callQ (by kernel_rfl) hls rfl rfl rfl 36 #[.tmp 21, .tmp 22] _ rfl #[.agg ap, .agg (numsA .u8 (clampL k))] (by simp [eval_of hvp, eval_of hvq]) (run_enter Tryd.func36 (by kernel_rfl) (by kernel_rfl)) (.like (IsC 20 RP [some (eB.times (expo (clampL k)))])) rfl rfl ((multiplyR _ (HT.out.upd (HU3.out.drew.trans hI.upd)) hCp ((clampL_length _).trans hl) (clampL_digs hd)).mono fun _ _ h => h.sq) hK'
            · obtain rfl := Option.some.inj ho
              obtain ⟨vp, hvp, ap, rfl, hCp⟩ := hI.haveQ 2 _ 23 (.like (IsC 20 RP [some (eB.times (expo (clampL k)))])) rfl rfl rfl (hdep ⟨2, .data⟩ (by simp) rfl)
              exact hI.callQ (by kernel_rfl) hls rfl rfl rfl 26 #[.tmp 23] _ rfl #[.agg ap] (by simp [eval_of hvp]) (run_enter Tryd.func26 (by kernel_rfl) (by kernel_rfl)) (.val (.agg (numsA .u8 (encP (eB.times (expo (clampL k))))))) rfl rfl ((encodeR _ hCp).mono fun _ _ h => ret_val h) hK'
            · obtain rfl := Option.some.inj ho
              exact hI.newQ (by kernel_rfl) hls (Nat.le_refl _) (newsQ_spec (l := [4]) (by kernel_rfl) ⟨⟨_, _, rfl⟩, trivial⟩) rfl rfl rfl 23 _ (fun z => z = numsA .u8 zeroKL) (run_allocQ rfl zeroK_run wn) rfl rfl hK'
            · exact hi.elim
          · intro fuel an w5 hf hI
            obtain ⟨vr4_0, hvr4_0, ar4_0, rfl, hCr4_0⟩ := hI.haveQ 0 _ 21 (.like (IsC 20 RP [some eB])) rfl rfl rfl rfl
            obtain ⟨vr4_1, hvr4_1, hsr4_1⟩ := hI.haveQ 1 _ 22 (.val (.agg (numsA .u8 (clampL k)))) rfl rfl rfl rfl
            obtain rfl := hsr4_1
            obtain ⟨vr4_2, hvr4_2, ar4_2, rfl, hCr4_2⟩ := hI.haveQ 2 _ 23 (.like (IsC 20 RP [some (eB.times (expo (clampL k)))])) rfl rfl rfl rfl
            obtain ⟨vr4_3, hvr4_3, hsr4_3⟩ := hI.haveQ 3 _ 24 (.val (.agg (numsA .u8 (encP (eB.times (expo (clampL k))))))) rfl rfl rfl rfl
            obtain rfl := hsr4_3
            obtain ⟨vr4_4, hvr4_4, br4_4, zr4_4, rfl, hnr4_4, hbr4_4, hzr4_4⟩ := hI.haveQ 4 _ 4 (.blk ptrTo 23 (fun z => z = numsA .u8 zeroKL)) rfl rfl rfl rfl
            rw [hzr4_4] at hbr4_4
            clear hzr4_4
            have hupd := hI.upd
            have ha := hI.act [(21, .agg ar4_0), (22, .agg (numsA .u8 (clampL k))), (23, .agg ar4_2), (24, .agg (numsA .u8 (encP (eB.times (expo (clampL k)))))), (4, ptrTo br4_4)] (by simp [hvr4_0, hvr4_1, hvr4_2, hvr4_3, hvr4_4]) (by kernel_rfl)
            clear hI hvr4_0 hvr4_1 hvr4_2 hvr4_3 hvr4_4
            subst ha
            simp only [List.foldl_cons, List.foldl_nil, List.setIfInBounds_toArray, List.set_cons_zero, List.set_cons_succ]
            have hner4_4_Bxr0y0_3 := Lib.hid (show br4_4 ≠ br0_0 from Nat.ne_of_gt (Nat.lt_of_lt_of_le Bxr0y0_3.out.lt hnr4_4))
            have hner4_4_Bxr2y2_3 := Lib.hid (show br4_4 ≠ br2_2 from Nat.ne_of_gt (Nat.lt_of_lt_of_le Bxr2y2_3.out.lt hnr4_4))
            have hger4_4 := Lib.hid (Nat.le_trans HU3.out.size hnr4_4)
            have Bxr0y0_4 := Lib.hid (hupd.blk (show Blk w4.drew br0_0 23 (numsA .u8 (clampL k)) from Bxr0y0_3.out) (fun h => h))
            have Bxr2y2_4 := Lib.hid (hupd.blk (show Blk w4.drew br2_2 23 (numsA .u8 (encP eB)) from Bxr2y2_3.out) (fun h => h))
            have Bxr4y4 := Lib.hid hbr4_4
            have HU4 := Lib.hid (HU3.out.drew.trans hupd)
            clear hupd
            have hf0 : left #[true, true, true, true, true, false] 6 = 1 := by kernel_rfl
            have hf1 : left #[true, true, true, true, true, false] 6 ≤ fuel := hf
            obtain ⟨fu, rfl⟩ : ∃ fu, fuel = fu + 1 := ⟨fuel - 1, by omega⟩
            clear hf hf0 hf1
            refine wpAny_storeQ 5 rfl (by kernel_rfl) rfl rfl 23 (.tmp 4) (.tmp 24) rfl br4_4 0 32 rfl (numsA .u8 (encP (eB.times (expo (clampL k))))) rfl 23 (numsA .u8 zeroKL) Bxr4y4.out sizeKey (by rw [numsA_size]; exact encP_length _) (by rw [(show (numsA _ _).size = 32 by rw [numsA_size]; exact zeroKL_length)]; exact Nat.le_of_ble_eq_true rfl) (numsA_one _ _) ?_
            intro ws4_0 hs4_0 hus4_0
            rw [splice_all _ _ 32 (show (numsA _ _).size = 32 by rw [numsA_size]; exact zeroKL_length) (by rw [numsA_size]; exact encP_length _)] at hs4_0
            have Bxr0y0_s4_0 := Lib.hid (hus4_0.blk Bxr0y0_4.out (fun e => hner4_4_Bxr0y0_3.out e.symm))
            have Bxr2y2_s4_0 := Lib.hid (hus4_0.blk Bxr2y2_4.out (fun e => hner4_4_Bxr2y2_3.out e.symm))
            have Bxr4y4_s4_0 := Lib.hid hs4_0
            have HU4_0 := Lib.hid (HU4.out.step hus4_0 (fun i hi h => absurd hi (Nat.not_lt.2 (h.symm ▸ hger4_4.out))))
            clear hs4_0 hus4_0
            refine wpAny_done (by kernel_rfl) ?_ _
            refine hK5 _ _ ?_
            clear hK5
            refine wp_seq_k fun K6 hK6 => ?_
            refine wp_region_qS 4 #[true, true, true, true, false] [4] ([.val (.pointer (some ⟨br4_4, 0 + 31, none⟩)), .val (.int .u8 ((encP (eB.times (expo (clampL k)))).getD 31 0)), .val (.int .u8 (bits .and .u8 ((encP (eB.times (expo (clampL k)))).getD 31 0) 127)), .val (.pointer (some ⟨br4_4, 0 + 31, none⟩)), .val undef] : List SQ) (by kernel_rfl) (by kernel_rfl) (by kernel_rfl) ?_ ?_
            · intro i o listed an wn ho hls hst hun hdep hI hpre K' hK'
              have hi : i = 0 ∨ i = 1 ∨ i = 2 ∨ i = 3 ∨ False := slot_cases (l := [0, 1, 2, 3]) rfl ho hst
              rcases hi with rfl | rfl | rfl | rfl | hi
              · obtain rfl := Option.some.inj ho
                have hvp : an.eval (.tmp 4) = ptrTo br4_4 := hI.oldQ (by kernel_rfl) rfl
                exact hI.pureQ (by kernel_rfl) hls rfl rfl rfl (.pointer (some ⟨br4_4, 0 + 31, none⟩)) (run_adr (off := 0) (i := 31) rfl Tryd.underlying23 size5 hvp rfl (by omega) wn) (.val (.pointer (some ⟨br4_4, 0 + 31, none⟩))) rfl rfl rfl hK'
              · obtain rfl := Option.some.inj ho
                obtain ⟨vp, hvp, hsp⟩ := hI.haveQ 0 _ 25 (.val (.pointer (some ⟨br4_4, 0 + 31, none⟩))) rfl rfl rfl (hdep ⟨0, .data⟩ (by simp) rfl)
                obtain rfl := hsp
                exact hI.pureQ (by kernel_rfl) hls rfl rfl rfl (.int .u8 ((encP (eB.times (expo (clampL k)))).getD 31 0)) (run_cellQ rfl Tryd.underlying5 (eval_of hvp) wn (hI.upd.blk (show Blk ws4_0 br4_4 23 (numsA .u8 (encP (eB.times (expo (clampL k))))) from Bxr4y4_s4_0.out) (fun h => h)) (by rw [Nat.zero_add]; exact numsA_get _ _ _ (by rw [encP_length _]; omega))) (.val (.int .u8 ((encP (eB.times (expo (clampL k)))).getD 31 0))) rfl rfl rfl hK'
              · obtain rfl := Option.some.inj ho
                obtain ⟨vp, hvp, hsp⟩ := hI.haveQ 1 _ 26 (.val (.int .u8 ((encP (eB.times (expo (clampL k)))).getD 31 0))) rfl rfl rfl (hdep ⟨1, .data⟩ (by simp) rfl)
                obtain rfl := hsp
                exact hI.pureQ (by kernel_rfl) hls rfl rfl rfl (.int .u8 (bits .and .u8 ((encP (eB.times (expo (clampL k)))).getD 31 0) 127)) (run_andB8 rfl (eval_of hvp) rfl wn) (.val (.int .u8 (bits .and .u8 ((encP (eB.times (expo (clampL k)))).getD 31 0) 127))) rfl rfl rfl hK'
              · obtain rfl := Option.some.inj ho
                have hvp : an.eval (.tmp 4) = ptrTo br4_4 := hI.oldQ (by kernel_rfl) rfl
                exact hI.pureQ (by kernel_rfl) hls rfl rfl rfl (.pointer (some ⟨br4_4, 0 + 31, none⟩)) (run_adr (off := 0) (i := 31) rfl Tryd.underlying23 size5 hvp rfl (by omega) wn) (.val (.pointer (some ⟨br4_4, 0 + 31, none⟩))) rfl rfl rfl hK'
              · exact hi.elim
            · intro an w6 hI
              obtain ⟨vr5_0, hvr5_0, hsr5_0⟩ := hI.haveQ 0 _ 25 (.val (.pointer (some ⟨br4_4, 0 + 31, none⟩))) rfl rfl rfl rfl
              obtain rfl := hsr5_0
              obtain ⟨vr5_1, hvr5_1, hsr5_1⟩ := hI.haveQ 1 _ 26 (.val (.int .u8 ((encP (eB.times (expo (clampL k)))).getD 31 0))) rfl rfl rfl rfl
              obtain rfl := hsr5_1
              obtain ⟨vr5_2, hvr5_2, hsr5_2⟩ := hI.haveQ 2 _ 27 (.val (.int .u8 (bits .and .u8 ((encP (eB.times (expo (clampL k)))).getD 31 0) 127))) rfl rfl rfl rfl
              obtain rfl := hsr5_2
              obtain ⟨vr5_3, hvr5_3, hsr5_3⟩ := hI.haveQ 3 _ 28 (.val (.pointer (some ⟨br4_4, 0 + 31, none⟩))) rfl rfl rfl rfl
              obtain rfl := hsr5_3
              have hupd := hI.upd
              have ha := hI.act [(25, .pointer (some ⟨br4_4, 0 + 31, none⟩)), (26, .int .u8 ((encP (eB.times (expo (clampL k)))).getD 31 0)), (27, .int .u8 (bits .and .u8 ((encP (eB.times (expo (clampL k)))).getD 31 0) 127)), (28, .pointer (some ⟨br4_4, 0 + 31, none⟩))] (by simp [hvr5_0, hvr5_1, hvr5_2, hvr5_3]) (by kernel_rfl)
              clear hI hvr5_0 hvr5_1 hvr5_2 hvr5_3
              subst ha
              simp only [List.foldl_cons, List.foldl_nil, List.setIfInBounds_toArray, List.set_cons_zero, List.set_cons_succ]
              have Bxr0y0_5 := Lib.hid (hupd.blk (show Blk ws4_0 br0_0 23 (numsA .u8 (clampL k)) from Bxr0y0_s4_0.out) (fun h => h))
              have Bxr2y2_5 := Lib.hid (hupd.blk (show Blk ws4_0 br2_2 23 (numsA .u8 (encP eB)) from Bxr2y2_s4_0.out) (fun h => h))
              have Bxr4y4_5 := Lib.hid (hupd.blk (show Blk ws4_0 br4_4 23 (numsA .u8 (encP (eB.times (expo (clampL k))))) from Bxr4y4_s4_0.out) (fun h => h))
              have HU5 := Lib.hid (HU4_0.out.trans hupd)
              clear hupd
              refine wpOps_storeB 4 rfl rfl rfl 5 (.tmp 28) (.tmp 27) rfl size5 br4_4 (0 + 31) rfl (bits .and .u8 ((encP (eB.times (expo (clampL k)))).getD 31 0) 127) rfl 23 (encP (eB.times (expo (clampL k)))) Bxr4y4_5.out (by rw [encP_length _]; omega) ?_
              rw [Nat.zero_add]
              intro ws5_0 hs5_0 hus5_0
              have Bxr0y0_s5_0 := Lib.hid (hus5_0.blk Bxr0y0_5.out (fun e => hner4_4_Bxr0y0_3.out e.symm))
              have Bxr2y2_s5_0 := Lib.hid (hus5_0.blk Bxr2y2_5.out (fun e => hner4_4_Bxr2y2_3.out e.symm))
              have Bxr4y4_s5_0 := Lib.hid hs5_0
              have HU5_0 := Lib.hid (HU5.out.step hus5_0 (fun i hi h => absurd hi (Nat.not_lt.2 (h.symm ▸ hger4_4.out))))
              clear hs5_0 hus5_0
              refine wpOps_nil ?_
              refine hK6 _ _ ?_
              clear hK6
              refine wp_seq_k fun K7 hK7 => ?_
              refine wp_region_qS 3 #[true, true, true, false] [3] ([.val (.agg (numsA .u8 ((encP (eB.times (expo (clampL k)))).set 31 (bits .and .u8 ((encP (eB.times (expo (clampL k)))).getD 31 0) 127)))), .like (IsC 5 RE [ofKey ((encP (eB.times (expo (clampL k)))).set 31 (bits .and .u8 ((encP (eB.times (expo (clampL k)))).getD 31 0) 127))]), .blk ptrTo 39 (Ch 5 RE [0]), .val undef] : List SQ) (by kernel_rfl) (by kernel_rfl) (by kernel_rfl) ?_ ?_
              · intro i o listed an wn ho hls hst hun hdep hI hpre K' hK'
                have hi : i = 0 ∨ i = 1 ∨ i = 2 ∨ False := slot_cases (l := [0, 1, 2]) rfl ho hst
                rcases hi with rfl | rfl | rfl | hi
                · obtain rfl := Option.some.inj ho
                  have hvp : an.eval (.tmp 4) = ptrTo br4_4 := hI.oldQ (by kernel_rfl) rfl
                  exact hI.pureQ (by kernel_rfl) hls rfl rfl rfl _ (run_loadQ rfl hvp wn (hI.upd.blk (show Blk ws5_0 br4_4 23 (numsA .u8 ((encP (eB.times (expo (clampL k)))).set 31 (bits .and .u8 ((encP (eB.times (expo (clampL k)))).getD 31 0) 127))) from Bxr4y4_s5_0.out) (fun h => h)) Tryd.underlying23 rfl sizeKey (by rw [numsA_size, (set_length (encP_length _) _ _)]; omega)) (.val (.agg (numsA .u8 ((encP (eB.times (expo (clampL k)))).set 31 (bits .and .u8 ((encP (eB.times (expo (clampL k)))).getD 31 0) 127))))) rfl (congrArg Value.agg (extract_all _ 32 (by rw [numsA_size]; exact (set_length (encP_length _) _ _)))) rfl hK'
                · obtain rfl := Option.some.inj ho
                  obtain ⟨vp, hvp, hsp⟩ := hI.haveQ 0 _ 29 (.val (.agg (numsA .u8 ((encP (eB.times (expo (clampL k)))).set 31 (bits .and .u8 ((encP (eB.times (expo (clampL k)))).getD 31 0) 127))))) rfl rfl rfl (hdep ⟨0, .data⟩ (by simp) rfl)
                  obtain rfl := hsp
                  exact hI.callQ (by kernel_rfl) hls rfl rfl rfl 42 #[.tmp 29] _ rfl #[.agg (numsA .u8 ((encP (eB.times (expo (clampL k)))).set 31 (bits .and .u8 ((encP (eB.times (expo (clampL k)))).getD 31 0) 127)))] (by simp [eval_of hvp]) (run_enter Tryd.func42 (by kernel_rfl) (by kernel_rfl)) (.like (IsC 5 RE [ofKey ((encP (eB.times (expo (clampL k)))).set 31 (bits .and .u8 ((encP (eB.times (expo (clampL k)))).getD 31 0) 127))])) rfl rfl ((ofE ((encP (eB.times (expo (clampL k)))).set 31 (bits .and .u8 ((encP (eB.times (expo (clampL k)))).getD 31 0) 127)) ((set_length (encP_length _) _ _)) ((digs_set (encP_digs _) _ _ (and8_bnd _ _ (Digs.get (B := 256) (by decide) (encP_digs _) _) (by decide)).1 (and8_bnd _ _ (Digs.get (B := 256) (by decide) (encP_digs _) _) (by decide)).2))).mono fun _ _ h => h.sq) hK'
                · obtain rfl := Option.some.inj ho
                  exact hI.newQ (by kernel_rfl) hls (Nat.le_refl _) (newsQ_spec (l := [2]) (by kernel_rfl) ⟨⟨_, _, rfl⟩, trivial⟩) rfl rfl rfl 39 zE _ (run_allocQ rfl zE_run wn) rfl zE_ch hK'
                · exact hi.elim
              · intro an w7 hI
                obtain ⟨vr6_0, hvr6_0, hsr6_0⟩ := hI.haveQ 0 _ 29 (.val (.agg (numsA .u8 ((encP (eB.times (expo (clampL k)))).set 31 (bits .and .u8 ((encP (eB.times (expo (clampL k)))).getD 31 0) 127))))) rfl rfl rfl rfl
                obtain rfl := hsr6_0
                obtain ⟨vr6_1, hvr6_1, ar6_1, rfl, hCr6_1⟩ := hI.haveQ 1 _ 30 (.like (IsC 5 RE [ofKey ((encP (eB.times (expo (clampL k)))).set 31 (bits .and .u8 ((encP (eB.times (expo (clampL k)))).getD 31 0) 127))])) rfl rfl rfl rfl
                obtain ⟨vr6_2, hvr6_2, br6_2, zr6_2, rfl, hnr6_2, hbr6_2, hzr6_2⟩ := hI.haveQ 2 _ 5 (.blk ptrTo 39 (Ch 5 RE [0])) rfl rfl rfl rfl
                have hupd := hI.upd
                have ha := hI.act [(29, .agg (numsA .u8 ((encP (eB.times (expo (clampL k)))).set 31 (bits .and .u8 ((encP (eB.times (expo (clampL k)))).getD 31 0) 127)))), (30, .agg ar6_1), (5, ptrTo br6_2)] (by simp [hvr6_0, hvr6_1, hvr6_2]) (by kernel_rfl)
                clear hI hvr6_0 hvr6_1 hvr6_2
                subst ha
                simp only [List.foldl_cons, List.foldl_nil, List.setIfInBounds_toArray, List.set_cons_zero, List.set_cons_succ]
                have hner6_2_Bxr0y0_s5_0 := Lib.hid (show br6_2 ≠ br0_0 from Nat.ne_of_gt (Nat.lt_of_lt_of_le Bxr0y0_s5_0.out.lt hnr6_2))
                have hner6_2_Bxr2y2_s5_0 := Lib.hid (show br6_2 ≠ br2_2 from Nat.ne_of_gt (Nat.lt_of_lt_of_le Bxr2y2_s5_0.out.lt hnr6_2))
                have hner6_2_Bxr4y4_s5_0 := Lib.hid (show br6_2 ≠ br4_4 from Nat.ne_of_gt (Nat.lt_of_lt_of_le Bxr4y4_s5_0.out.lt hnr6_2))
                have hger6_2 := Lib.hid (Nat.le_trans HU5_0.out.size hnr6_2)
                have Bxr0y0_6 := Lib.hid (hupd.blk (show Blk ws5_0 br0_0 23 (numsA .u8 (clampL k)) from Bxr0y0_s5_0.out) (fun h => h))
                have Bxr2y2_6 := Lib.hid (hupd.blk (show Blk ws5_0 br2_2 23 (numsA .u8 (encP eB)) from Bxr2y2_s5_0.out) (fun h => h))
                have Bxr4y4_6 := Lib.hid (hupd.blk (show Blk ws5_0 br4_4 23 (numsA .u8 ((encP (eB.times (expo (clampL k)))).set 31 (bits .and .u8 ((encP (eB.times (expo (clampL k)))).getD 31 0) 127))) from Bxr4y4_s5_0.out) (fun h => h))
                have Bxr6y2 := Lib.hid hbr6_2
                have HU6 := Lib.hid (HU5_0.out.trans hupd)
                clear hupd
                refine wpOps_storeQ 3 rfl rfl rfl 39 (.tmp 5) (.tmp 30) rfl br6_2 0 5 rfl ar6_1 rfl 39 zr6_2 Bxr6y2.out szE hCr6_1.size (by rw [hzr6_2.size]; exact Nat.le_of_ble_eq_true rfl) hCr6_1.one' ?_
                intro ws6_0 hs6_0 hus6_0
                rw [splice_all _ _ 5 hzr6_2.size hCr6_1.size] at hs6_0
                have Bxr0y0_s6_0 := Lib.hid (hus6_0.blk Bxr0y0_6.out (fun e => hner6_2_Bxr0y0_s5_0.out e.symm))
                have Bxr2y2_s6_0 := Lib.hid (hus6_0.blk Bxr2y2_6.out (fun e => hner6_2_Bxr2y2_s5_0.out e.symm))
                have Bxr4y4_s6_0 := Lib.hid (hus6_0.blk Bxr4y4_6.out (fun e => hner6_2_Bxr4y4_s5_0.out e.symm))
                have Bxr6y2_s6_0 := Lib.hid hs6_0
                have HU6_0 := Lib.hid (HU6.out.step hus6_0 (fun i hi h => absurd hi (Nat.not_lt.2 (h.symm ▸ hger6_2.out))))
                clear hs6_0 hus6_0
                refine wpOps_nil ?_
                refine hK7 _ _ ?_
                clear hK7
                refine wp_seq_k fun K8 hK8 => ?_
                refine wp_region_qS 2 #[true, true, false] [2] ([.like (IsC 5 RE [fv 1]), .blk ptrTo 39 (Ch 5 RE [0]), .val undef] : List SQ) (by kernel_rfl) (by kernel_rfl) (by kernel_rfl) ?_ ?_
                · intro i o listed an wn ho hls hst hun hdep hI hpre K' hK'
                  have hi : i = 0 ∨ i = 1 ∨ False := slot_cases (l := [0, 1]) rfl ho hst
                  rcases hi with rfl | rfl | hi
                  · obtain rfl := Option.some.inj ho
                    exact hI.callQ (by kernel_rfl) hls rfl rfl rfl 43 #[.const (.int .u32 1)] _ rfl #[.int .u32 1] (by simp [Act.eval]) (run_enter Tryd.func43 (by kernel_rfl) (by kernel_rfl)) (.like (IsC 5 RE [fv 1])) rfl rfl ((smallE 1 (by decide) (by decide)).mono fun _ _ h => h.sq) hK'
                  · obtain rfl := Option.some.inj ho
                    exact hI.newQ (by kernel_rfl) hls (Nat.le_refl _) (newsQ_spec (l := [1]) (by kernel_rfl) ⟨⟨_, _, rfl⟩, trivial⟩) rfl rfl rfl 39 zE _ (run_allocQ rfl zE_run wn) rfl zE_ch hK'
                  · exact hi.elim
                · intro an w8 hI
                  obtain ⟨vr7_0, hvr7_0, ar7_0, rfl, hCr7_0⟩ := hI.haveQ 0 _ 31 (.like (IsC 5 RE [fv 1])) rfl rfl rfl rfl
                  obtain ⟨vr7_1, hvr7_1, br7_1, zr7_1, rfl, hnr7_1, hbr7_1, hzr7_1⟩ := hI.haveQ 1 _ 6 (.blk ptrTo 39 (Ch 5 RE [0])) rfl rfl rfl rfl
                  have hupd := hI.upd
                  have ha := hI.act [(31, .agg ar7_0), (6, ptrTo br7_1)] (by simp [hvr7_0, hvr7_1]) (by kernel_rfl)
                  clear hI hvr7_0 hvr7_1
                  subst ha
                  simp only [List.foldl_cons, List.foldl_nil, List.setIfInBounds_toArray, List.set_cons_zero, List.set_cons_succ]
                  have hner7_1_Bxr0y0_s6_0 := Lib.hid (show br7_1 ≠ br0_0 from Nat.ne_of_gt (Nat.lt_of_lt_of_le Bxr0y0_s6_0.out.lt hnr7_1))
                  have hner7_1_Bxr2y2_s6_0 := Lib.hid (show br7_1 ≠ br2_2 from Nat.ne_of_gt (Nat.lt_of_lt_of_le Bxr2y2_s6_0.out.lt hnr7_1))
                  have hner7_1_Bxr4y4_s6_0 := Lib.hid (show br7_1 ≠ br4_4 from Nat.ne_of_gt (Nat.lt_of_lt_of_le Bxr4y4_s6_0.out.lt hnr7_1))
                  have hner7_1_Bxr6y2_s6_0 := Lib.hid (show br7_1 ≠ br6_2 from Nat.ne_of_gt (Nat.lt_of_lt_of_le Bxr6y2_s6_0.out.lt hnr7_1))
                  have hger7_1 := Lib.hid (Nat.le_trans HU6_0.out.size hnr7_1)
                  have Bxr0y0_7 := Lib.hid (hupd.blk (show Blk ws6_0 br0_0 23 (numsA .u8 (clampL k)) from Bxr0y0_s6_0.out) (fun h => h))
                  have Bxr2y2_7 := Lib.hid (hupd.blk (show Blk ws6_0 br2_2 23 (numsA .u8 (encP eB)) from Bxr2y2_s6_0.out) (fun h => h))
                  have Bxr4y4_7 := Lib.hid (hupd.blk (show Blk ws6_0 br4_4 23 (numsA .u8 ((encP (eB.times (expo (clampL k)))).set 31 (bits .and .u8 ((encP (eB.times (expo (clampL k)))).getD 31 0) 127))) from Bxr4y4_s6_0.out) (fun h => h))
                  have Bxr6y2_7 := Lib.hid (hupd.blk (show Blk ws6_0 br6_2 39 ar6_1 from Bxr6y2_s6_0.out) (fun h => h))
                  have Bxr7y1 := Lib.hid hbr7_1
                  have HU7 := Lib.hid (HU6_0.out.trans hupd)
                  clear hupd
                  refine wpOps_storeQ 2 rfl rfl rfl 39 (.tmp 6) (.tmp 31) rfl br7_1 0 5 rfl ar7_0 rfl 39 zr7_1 Bxr7y1.out szE hCr7_0.size (by rw [hzr7_1.size]; exact Nat.le_of_ble_eq_true rfl) hCr7_0.one' ?_
                  intro ws7_0 hs7_0 hus7_0
                  rw [splice_all _ _ 5 hzr7_1.size hCr7_0.size] at hs7_0
                  have Bxr0y0_s7_0 := Lib.hid (hus7_0.blk Bxr0y0_7.out (fun e => hner7_1_Bxr0y0_s6_0.out e.symm))
                  have Bxr2y2_s7_0 := Lib.hid (hus7_0.blk Bxr2y2_7.out (fun e => hner7_1_Bxr2y2_s6_0.out e.symm))
                  have Bxr4y4_s7_0 := Lib.hid (hus7_0.blk Bxr4y4_7.out (fun e => hner7_1_Bxr4y4_s6_0.out e.symm))
                  have Bxr6y2_s7_0 := Lib.hid (hus7_0.blk Bxr6y2_7.out (fun e => hner7_1_Bxr6y2_s6_0.out e.symm))
                  have Bxr7y1_s7_0 := Lib.hid hs7_0
                  have HU7_0 := Lib.hid (HU7.out.step hus7_0 (fun i hi h => absurd hi (Nat.not_lt.2 (h.symm ▸ hger7_1.out))))
                  clear hs7_0 hus7_0
                  refine wpOps_nil ?_
                  refine hK8 _ _ ?_
                  clear hK8
                  refine wp_seq_k fun K9 hK9 => ?_
                  refine wp_region_q #[true, true, true, true, true, true, true, true, true, true, false] ([.val (.agg ar7_0), .val (.agg ar6_1), .blk (fun b => .slice (some ⟨b, 0, none⟩) 2 2) 39 (Ch 5 RE [fv 1, ofKey ((encP (eB.times (expo (clampL k)))).set 31 (bits .and .u8 ((encP (eB.times (expo (clampL k)))).getD 31 0) 127))]), .like (IsC 5 RE [(fv 1) + (ofKey ((encP (eB.times (expo (clampL k)))).set 31 (bits .and .u8 ((encP (eB.times (expo (clampL k)))).getD 31 0) 127)))]), .val (.agg ar7_0), .val (.agg ar6_1), .like (IsC 5 RE [(fv 1) - (ofKey ((encP (eB.times (expo (clampL k)))).set 31 (bits .and .u8 ((encP (eB.times (expo (clampL k)))).getD 31 0) 127)))]), .like (IsC 5 RE [finv ((fv 1) - (ofKey ((encP (eB.times (expo (clampL k)))).set 31 (bits .and .u8 ((encP (eB.times (expo (clampL k)))).getD 31 0) 127))))]), .like (IsC 5 RE [((fv 1) + (ofKey ((encP (eB.times (expo (clampL k)))).set 31 (bits .and .u8 ((encP (eB.times (expo (clampL k)))).getD 31 0) 127)))) * (finv ((fv 1) - (ofKey ((encP (eB.times (expo (clampL k)))).set 31 (bits .and .u8 ((encP (eB.times (expo (clampL k)))).getD 31 0) 127)))))]), .blk ptrTo 39 (Ch 5 RE [0]), .val undef] : List SQ) (by kernel_rfl) (by kernel_rfl) (by kernel_rfl) ?_ ?_
                  · intro i o listed an wn ho hls hst hun hdep hI K' hK'
                    have hi : i = 0 ∨ i = 1 ∨ i = 2 ∨ i = 3 ∨ i = 4 ∨ i = 5 ∨ i = 6 ∨ i = 7 ∨ i = 8 ∨ i = 9 ∨ False := slot_cases (l := [0, 1, 2, 3, 4, 5, 6, 7, 8, 9]) rfl ho hst
                    rcases hi with rfl | rfl | rfl | rfl | rfl | rfl | rfl | rfl | rfl | rfl | hi
                    · obtain rfl := Option.some.inj ho
                      have hvp : an.eval (.tmp 6) = ptrTo br7_1 := hI.oldQ (by kernel_rfl) rfl
                      exact hI.pureQ (by kernel_rfl) hls rfl rfl rfl _ (run_loadQ rfl hvp wn (hI.upd.blk (show Blk ws7_0.drew br7_1 39 ar7_0 from Bxr7y1_s7_0.out) (fun h => h)) Tryd.underlying39 rfl szE (by rw [hCr7_0.size]; exact Nat.le_of_ble_eq_true rfl)) (.val (.agg ar7_0)) rfl (congrArg Value.agg (extract_all _ 5 hCr7_0.size)) rfl hK'
                    · obtain rfl := Option.some.inj ho
                      have hvp : an.eval (.tmp 5) = ptrTo br6_2 := hI.oldQ (by kernel_rfl) rfl
                      exact hI.pureQ (by kernel_rfl) hls rfl rfl rfl _ (run_loadQ rfl hvp wn (hI.upd.blk (show Blk ws7_0.drew br6_2 39 ar6_1 from Bxr6y2_s7_0.out) (fun h => h)) Tryd.underlying39 rfl szE (by rw [hCr6_1.size]; exact Nat.le_of_ble_eq_true rfl)) (.val (.agg ar6_1)) rfl (congrArg Value.agg (extract_all _ 5 hCr6_1.size)) rfl hK'
                    · obtain rfl := Option.some.inj ho
                      obtain ⟨vp, hvp, hsp⟩ := hI.haveQ 0 _ 32 (.val (.agg ar7_0)) rfl rfl rfl (hdep ⟨0, .data⟩ (by simp) rfl)
                      obtain rfl := hsp
                      obtain ⟨vq, hvq, hsq⟩ := hI.haveQ 1 _ 33 (.val (.agg ar6_1)) rfl rfl rfl (hdep ⟨1, .data⟩ (by simp) rfl)
                      obtain rfl := hsq
                      exact hI.rowQ (by kernel_rfl) hls (Nat.le_refl _) rfl rfl rfl _ _ _ _ (run_pairQ rfl (eval_of hvp) (eval_of hvq) hCr7_0.size hCr6_1.size wn) rfl (hCr7_0.cat hCr6_1) rfl hK'
                    · obtain rfl := Option.some.inj ho
                      obtain ⟨vp, hvp, bp, zp, rfl, hnp, hbp, hzp⟩ := hI.haveQ 2 _ 34 (.blk (fun b => .slice (some ⟨b, 0, none⟩) 2 2) 39 (Ch 5 RE [fv 1, ofKey ((encP (eB.times (expo (clampL k)))).set 31 (bits .and .u8 ((encP (eB.times (expo (clampL k)))).getD 31 0) 127))])) rfl rfl rfl (hdep ⟨2, .data⟩ (by simp) rfl)
                      exact hI.callQ (by kernel_rfl) hls rfl rfl rfl 45 #[.tmp 34] _ rfl #[.slice (some ⟨bp, 0, none⟩) 2 2] (by simp [eval_of hvp]) (run_enter Tryd.func45 (by kernel_rfl) (by kernel_rfl)) (.like (IsC 5 RE [(fv 1) + (ofKey ((encP (eB.times (expo (clampL k)))).set 31 (bits .and .u8 ((encP (eB.times (expo (clampL k)))).getD 31 0) 127)))])) rfl rfl ((addE hbp hzp).mono fun _ _ h => h.sq) hK'
                    · obtain rfl := Option.some.inj ho
                      have hvp : an.eval (.tmp 6) = ptrTo br7_1 := hI.oldQ (by kernel_rfl) rfl
                      exact hI.pureQ (by kernel_rfl) hls rfl rfl rfl _ (run_loadQ rfl hvp wn (hI.upd.blk (show Blk ws7_0.drew br7_1 39 ar7_0 from Bxr7y1_s7_0.out) (fun h => h)) Tryd.underlying39 rfl szE (by rw [hCr7_0.size]; exact Nat.le_of_ble_eq_true rfl)) (.val (.agg ar7_0)) rfl (congrArg Value.agg (extract_all _ 5 hCr7_0.size)) rfl hK'
                    · obtain rfl := Option.some.inj ho
                      have hvp : an.eval (.tmp 5) = ptrTo br6_2 := hI.oldQ (by kernel_rfl) rfl
                      exact hI.pureQ (by kernel_rfl) hls rfl rfl rfl _ (run_loadQ rfl hvp wn (hI.upd.blk (show Blk ws7_0.drew br6_2 39 ar6_1 from Bxr6y2_s7_0.out) (fun h => h)) Tryd.underlying39 rfl szE (by rw [hCr6_1.size]; exact Nat.le_of_ble_eq_true rfl)) (.val (.agg ar6_1)) rfl (congrArg Value.agg (extract_all _ 5 hCr6_1.size)) rfl hK'
                    · obtain rfl := Option.some.inj ho
                      obtain ⟨vp, hvp, hsp⟩ := hI.haveQ 4 _ 36 (.val (.agg ar7_0)) rfl rfl rfl (hdep ⟨4, .data⟩ (by simp) rfl)
                      obtain rfl := hsp
                      obtain ⟨vq, hvq, hsq⟩ := hI.haveQ 5 _ 37 (.val (.agg ar6_1)) rfl rfl rfl (hdep ⟨5, .data⟩ (by simp) rfl)
                      obtain rfl := hsq
                      exact hI.callQ (by kernel_rfl) hls rfl rfl rfl 46 #[.tmp 36, .tmp 37] _ rfl #[.agg ar7_0, .agg ar6_1] (by simp [eval_of hvp, eval_of hvq]) (run_enter Tryd.func46 (by kernel_rfl) (by kernel_rfl)) (.like (IsC 5 RE [(fv 1) - (ofKey ((encP (eB.times (expo (clampL k)))).set 31 (bits .and .u8 ((encP (eB.times (expo (clampL k)))).getD 31 0) 127)))])) rfl rfl ((subE (HT.out.upd (HU7_0.out.drew.trans hI.upd)) hCr7_0 hCr6_1).mono fun _ _ h => h.sq) hK'
                    · obtain rfl := Option.some.inj ho
                      obtain ⟨vp, hvp, ap, rfl, hCp⟩ := hI.haveQ 6 _ 38 (.like (IsC 5 RE [(fv 1) - (ofKey ((encP (eB.times (expo (clampL k)))).set 31 (bits .and .u8 ((encP (eB.times (expo (clampL k)))).getD 31 0) 127)))])) rfl rfl rfl (hdep ⟨6, .data⟩ (by simp) rfl)
                      exact hI.callQ (by kernel_rfl) hls rfl rfl rfl 47 #[.tmp 38] _ rfl #[.agg ap] (by simp [eval_of hvp]) (run_enter Tryd.func47 (by kernel_rfl) (by kernel_rfl)) (.like (IsC 5 RE [finv ((fv 1) - (ofKey ((encP (eB.times (expo (clampL k)))).set 31 (bits .and .u8 ((encP (eB.times (expo (clampL k)))).getD 31 0) 127))))])) rfl rfl ((invE hCp).mono fun _ _ h => h.sq) hK'
                    · obtain rfl := Option.some.inj ho
                      obtain ⟨vp, hvp, ap, rfl, hCp⟩ := hI.haveQ 3 _ 35 (.like (IsC 5 RE [(fv 1) + (ofKey ((encP (eB.times (expo (clampL k)))).set 31 (bits .and .u8 ((encP (eB.times (expo (clampL k)))).getD 31 0) 127)))])) rfl rfl rfl (hdep ⟨3, .data⟩ (by simp) rfl)
                      obtain ⟨vq, hvq, aq, rfl, hCq⟩ := hI.haveQ 7 _ 39 (.like (IsC 5 RE [finv ((fv 1) - (ofKey ((encP (eB.times (expo (clampL k)))).set 31 (bits .and .u8 ((encP (eB.times (expo (clampL k)))).getD 31 0) 127))))])) rfl rfl rfl (hdep ⟨7, .data⟩ (by simp) rfl)
                      exact hI.callQ (by kernel_rfl) hls rfl rfl rfl 44 #[.tmp 35, .tmp 39] _ rfl #[.agg ap, .agg aq] (by simp [eval_of hvp, eval_of hvq]) (run_enter Tryd.func44 (by kernel_rfl) (by kernel_rfl)) (.like (IsC 5 RE [((fv 1) + (ofKey ((encP (eB.times (expo (clampL k)))).set 31 (bits .and .u8 ((encP (eB.times (expo (clampL k)))).getD 31 0) 127)))) * (finv ((fv 1) - (ofKey ((encP (eB.times (expo (clampL k)))).set 31 (bits .and .u8 ((encP (eB.times (expo (clampL k)))).getD 31 0) 127)))))])) rfl rfl ((mulE hCp hCq).mono fun _ _ h => h.sq) hK'
                    · obtain rfl := Option.some.inj ho
                      exact hI.newQ (by kernel_rfl) hls (Nat.le_refl _) (newsQ_spec (l := [9]) (by kernel_rfl) ⟨⟨_, _, rfl⟩, trivial⟩) rfl rfl rfl 39 zE _ (run_allocQ rfl zE_run wn) rfl zE_ch hK'
                    · exact hi.elim
                  · intro fuel an w9 hf hI
                    obtain ⟨vr8_0, hvr8_0, hsr8_0⟩ := hI.haveQ 0 _ 32 (.val (.agg ar7_0)) rfl rfl rfl rfl
                    obtain rfl := hsr8_0
                    obtain ⟨vr8_1, hvr8_1, hsr8_1⟩ := hI.haveQ 1 _ 33 (.val (.agg ar6_1)) rfl rfl rfl rfl
                    obtain rfl := hsr8_1
                    obtain ⟨vr8_2, hvr8_2, br8_2, zr8_2, rfl, hnr8_2, hbr8_2, hzr8_2⟩ := hI.haveQ 2 _ 34 (.blk (fun b => .slice (some ⟨b, 0, none⟩) 2 2) 39 (Ch 5 RE [fv 1, ofKey ((encP (eB.times (expo (clampL k)))).set 31 (bits .and .u8 ((encP (eB.times (expo (clampL k)))).getD 31 0) 127))])) rfl rfl rfl rfl
                    obtain ⟨vr8_3, hvr8_3, ar8_3, rfl, hCr8_3⟩ := hI.haveQ 3 _ 35 (.like (IsC 5 RE [(fv 1) + (ofKey ((encP (eB.times (expo (clampL k)))).set 31 (bits .and .u8 ((encP (eB.times (expo (clampL k)))).getD 31 0) 127)))])) rfl rfl rfl rfl
                    obtain ⟨vr8_4, hvr8_4, hsr8_4⟩ := hI.haveQ 4 _ 36 (.val (.agg ar7_0)) rfl rfl rfl rfl
                    obtain rfl := hsr8_4
                    obtain ⟨vr8_5, hvr8_5, hsr8_5⟩ := hI.haveQ 5 _ 37 (.val (.agg ar6_1)) rfl rfl rfl rfl
                    obtain rfl := hsr8_5
                    obtain ⟨vr8_6, hvr8_6, ar8_6, rfl, hCr8_6⟩ := hI.haveQ 6 _ 38 (.like (IsC 5 RE [(fv 1) - (ofKey ((encP (eB.times (expo (clampL k)))).set 31 (bits .and .u8 ((encP (eB.times (expo (clampL k)))).getD 31 0) 127)))])) rfl rfl rfl rfl
                    obtain ⟨vr8_7, hvr8_7, ar8_7, rfl, hCr8_7⟩ := hI.haveQ 7 _ 39 (.like (IsC 5 RE [finv ((fv 1) - (ofKey ((encP (eB.times (expo (clampL k)))).set 31 (bits .and .u8 ((encP (eB.times (expo (clampL k)))).getD 31 0) 127))))])) rfl rfl rfl rfl
                    obtain ⟨vr8_8, hvr8_8, ar8_8, rfl, hCr8_8⟩ := hI.haveQ 8 _ 40 (.like (IsC 5 RE [((fv 1) + (ofKey ((encP (eB.times (expo (clampL k)))).set 31 (bits .and .u8 ((encP (eB.times (expo (clampL k)))).getD 31 0) 127)))) * (finv ((fv 1) - (ofKey ((encP (eB.times (expo (clampL k)))).set 31 (bits .and .u8 ((encP (eB.times (expo (clampL k)))).getD 31 0) 127)))))])) rfl rfl rfl rfl
                    obtain ⟨vr8_9, hvr8_9, br8_9, zr8_9, rfl, hnr8_9, hbr8_9, hzr8_9⟩ := hI.haveQ 9 _ 7 (.blk ptrTo 39 (Ch 5 RE [0])) rfl rfl rfl rfl
                    have hupd := hI.upd
                    have ha := hI.act [(32, .agg ar7_0), (33, .agg ar6_1), (34, .slice (some ⟨br8_2, 0, none⟩) 2 2), (35, .agg ar8_3), (36, .agg ar7_0), (37, .agg ar6_1), (38, .agg ar8_6), (39, .agg ar8_7), (40, .agg ar8_8), (7, ptrTo br8_9)] (by simp [hvr8_0, hvr8_1, hvr8_2, hvr8_3, hvr8_4, hvr8_5, hvr8_6, hvr8_7, hvr8_8, hvr8_9]) (by kernel_rfl)
                    clear hI hvr8_0 hvr8_1 hvr8_2 hvr8_3 hvr8_4 hvr8_5 hvr8_6 hvr8_7 hvr8_8 hvr8_9
                    subst ha
                    simp only [List.foldl_cons, List.foldl_nil, List.setIfInBounds_toArray, List.set_cons_zero, List.set_cons_succ]
                    have hner8_9_Bxr0y0_s7_0 := Lib.hid (show br8_9 ≠ br0_0 from Nat.ne_of_gt (Nat.lt_of_lt_of_le Bxr0y0_s7_0.out.lt hnr8_9))
                    have hner8_9_Bxr2y2_s7_0 := Lib.hid (show br8_9 ≠ br2_2 from Nat.ne_of_gt (Nat.lt_of_lt_of_le Bxr2y2_s7_0.out.lt hnr8_9))
                    have hner8_9_Bxr4y4_s7_0 := Lib.hid (show br8_9 ≠ br4_4 from Nat.ne_of_gt (Nat.lt_of_lt_of_le Bxr4y4_s7_0.out.lt hnr8_9))
                    have hner8_9_Bxr6y2_s7_0 := Lib.hid (show br8_9 ≠ br6_2 from Nat.ne_of_gt (Nat.lt_of_lt_of_le Bxr6y2_s7_0.out.lt hnr8_9))
                    have hner8_9_Bxr7y1_s7_0 := Lib.hid (show br8_9 ≠ br7_1 from Nat.ne_of_gt (Nat.lt_of_lt_of_le Bxr7y1_s7_0.out.lt hnr8_9))
                    have hger8_9 := Lib.hid (Nat.le_trans HU7_0.out.size hnr8_9)
                    have Bxr0y0_8 := Lib.hid (hupd.blk (show Blk ws7_0.drew br0_0 23 (numsA .u8 (clampL k)) from Bxr0y0_s7_0.out) (fun h => h))
                    have Bxr2y2_8 := Lib.hid (hupd.blk (show Blk ws7_0.drew br2_2 23 (numsA .u8 (encP eB)) from Bxr2y2_s7_0.out) (fun h => h))
                    have Bxr4y4_8 := Lib.hid (hupd.blk (show Blk ws7_0.drew br4_4 23 (numsA .u8 ((encP (eB.times (expo (clampL k)))).set 31 (bits .and .u8 ((encP (eB.times (expo (clampL k)))).getD 31 0) 127))) from Bxr4y4_s7_0.out) (fun h => h))
                    have Bxr6y2_8 := Lib.hid (hupd.blk (show Blk ws7_0.drew br6_2 39 ar6_1 from Bxr6y2_s7_0.out) (fun h => h))
                    have Bxr7y1_8 := Lib.hid (hupd.blk (show Blk ws7_0.drew br7_1 39 ar7_0 from Bxr7y1_s7_0.out) (fun h => h))
                    have Bxr8y9 := Lib.hid hbr8_9
                    have HU8 := Lib.hid (HU7_0.out.drew.trans hupd)
                    clear hupd
                    have hf0 : left #[true, true, true, true, true, true, true, true, true, true, false] 11 = 1 := by kernel_rfl
                    have hf1 : left #[true, true, true, true, true, true, true, true, true, true, false] 11 ≤ fuel := hf
                    obtain ⟨fu, rfl⟩ : ∃ fu, fuel = fu + 1 := ⟨fuel - 1, by omega⟩
                    clear hf hf0 hf1
                    refine wpAny_storeQ 10 rfl (by kernel_rfl) rfl rfl 39 (.tmp 7) (.tmp 40) rfl br8_9 0 5 rfl ar8_8 rfl 39 zr8_9 Bxr8y9.out szE hCr8_8.size (by rw [hzr8_9.size]; exact Nat.le_of_ble_eq_true rfl) hCr8_8.one' ?_
                    intro ws8_0 hs8_0 hus8_0
                    rw [splice_all _ _ 5 hzr8_9.size hCr8_8.size] at hs8_0
                    have Bxr0y0_s8_0 := Lib.hid (hus8_0.blk Bxr0y0_8.out (fun e => hner8_9_Bxr0y0_s7_0.out e.symm))
                    have Bxr2y2_s8_0 := Lib.hid (hus8_0.blk Bxr2y2_8.out (fun e => hner8_9_Bxr2y2_s7_0.out e.symm))
                    have Bxr4y4_s8_0 := Lib.hid (hus8_0.blk Bxr4y4_8.out (fun e => hner8_9_Bxr4y4_s7_0.out e.symm))
                    have Bxr6y2_s8_0 := Lib.hid (hus8_0.blk Bxr6y2_8.out (fun e => hner8_9_Bxr6y2_s7_0.out e.symm))
                    have Bxr7y1_s8_0 := Lib.hid (hus8_0.blk Bxr7y1_8.out (fun e => hner8_9_Bxr7y1_s7_0.out e.symm))
                    have Bxr8y9_s8_0 := Lib.hid hs8_0
                    have HU8_0 := Lib.hid (HU8.out.step hus8_0 (fun i hi h => absurd hi (Nat.not_lt.2 (h.symm ▸ hger8_9.out))))
                    clear hs8_0 hus8_0
                    refine wpAny_done (by kernel_rfl) ?_ _
                    refine hK9 _ _ ?_
                    clear hK9
                    refine wp_seq_k fun K10 hK10 => ?_
                    refine wp_region_q #[true, true, true, true, true, true] ([.val (.agg ar8_8), .val (.agg (numsA .u8 (keyOf (((fv 1) + (ofKey ((encP (eB.times (expo (clampL k)))).set 31 (bits .and .u8 ((encP (eB.times (expo (clampL k)))).getD 31 0) 127)))) * (finv ((fv 1) - (ofKey ((encP (eB.times (expo (clampL k)))).set 31 (bits .and .u8 ((encP (eB.times (expo (clampL k)))).getD 31 0) 127))))))))), .val (.agg (numsA .u8 (clampL k))), .val (.agg (numsA .u8 (keyOf (ladV (clampL (clampL k)) (ofKey keyG0))))), .val (.bool true), .val (.bool true)] : List SQ) (by kernel_rfl) (by kernel_rfl) (by kernel_rfl) ?_ ?_
                    · intro i o listed an wn ho hls hst hun hdep hI K' hK'
                      have hi : i = 0 ∨ i = 1 ∨ i = 2 ∨ i = 3 ∨ i = 4 ∨ i = 5 ∨ False := slot_cases (l := [0, 1, 2, 3, 4, 5]) rfl ho hst
                      rcases hi with rfl | rfl | rfl | rfl | rfl | rfl | hi
                      · obtain rfl := Option.some.inj ho
                        have hvp : an.eval (.tmp 7) = ptrTo br8_9 := hI.oldQ (by kernel_rfl) rfl
                        exact hI.pureQ (by kernel_rfl) hls rfl rfl rfl _ (run_loadQ rfl hvp wn (hI.upd.blk (show Blk ws8_0.drew br8_9 39 ar8_8 from Bxr8y9_s8_0.out) (fun h => h)) Tryd.underlying39 rfl szE (by rw [hCr8_8.size]; exact Nat.le_of_ble_eq_true rfl)) (.val (.agg ar8_8)) rfl (congrArg Value.agg (extract_all _ 5 hCr8_8.size)) rfl hK'
                      · obtain rfl := Option.some.inj ho
                        obtain ⟨vp, hvp, hsp⟩ := hI.haveQ 0 _ 41 (.val (.agg ar8_8)) rfl rfl rfl (hdep ⟨0, .data⟩ (by simp) rfl)
                        obtain rfl := hsp
                        exact hI.callQ (by kernel_rfl) hls rfl rfl rfl 48 #[.tmp 41] _ rfl #[.agg ar8_8] (by simp [eval_of hvp]) (run_enter Tryd.func48 (by kernel_rfl) (by kernel_rfl)) (.val (.agg (numsA .u8 (keyOf (((fv 1) + (ofKey ((encP (eB.times (expo (clampL k)))).set 31 (bits .and .u8 ((encP (eB.times (expo (clampL k)))).getD 31 0) 127)))) * (finv ((fv 1) - (ofKey ((encP (eB.times (expo (clampL k)))).set 31 (bits .and .u8 ((encP (eB.times (expo (clampL k)))).getD 31 0) 127)))))))))) rfl rfl ((bytesE hCr8_8).mono fun _ _ h => ret_val h) hK'
                      · obtain rfl := Option.some.inj ho
                        have hvp : an.eval (.tmp 1) = ptrTo br0_0 := hI.oldQ (by kernel_rfl) rfl
                        exact hI.pureQ (by kernel_rfl) hls rfl rfl rfl _ (run_loadQ rfl hvp wn (hI.upd.blk (show Blk ws8_0.drew br0_0 23 (numsA .u8 (clampL k)) from Bxr0y0_s8_0.out) (fun h => h)) Tryd.underlying23 rfl sizeKey (by rw [numsA_size, (clampL_length _).trans hl]; omega)) (.val (.agg (numsA .u8 (clampL k)))) rfl (congrArg Value.agg (extract_all _ 32 (by rw [numsA_size]; exact (clampL_length _).trans hl))) rfl hK'
                      · obtain rfl := Option.some.inj ho
                        obtain ⟨vp, hvp, hsp⟩ := hI.haveQ 2 _ 43 (.val (.agg (numsA .u8 (clampL k)))) rfl rfl rfl (hdep ⟨2, .data⟩ (by simp) rfl)
                        obtain rfl := hsp
                        exact hI.callQ (by kernel_rfl) hls rfl rfl rfl 21 #[.tmp 43] _ rfl #[.agg (numsA .u8 (clampL k))] (by simp [eval_of hvp]) (run_enter Tryd.func21 (by kernel_rfl) (by kernel_rfl)) (.val (.agg (numsA .u8 (keyOf (ladV (clampL (clampL k)) (ofKey keyG0)))))) rfl rfl ((publicL _ (HT.out.upd (HU8_0.out.drew.trans hI.upd)) ((clampL_length _).trans hl) (clampL_digs hd)).mono fun _ _ h => ret_val h) hK'
                      · obtain rfl := Option.some.inj ho
                        obtain ⟨vp, hvp, hsp⟩ := hI.haveQ 1 _ 42 (.val (.agg (numsA .u8 (keyOf (((fv 1) + (ofKey ((encP (eB.times (expo (clampL k)))).set 31 (bits .and .u8 ((encP (eB.times (expo (clampL k)))).getD 31 0) 127)))) * (finv ((fv 1) - (ofKey ((encP (eB.times (expo (clampL k)))).set 31 (bits .and .u8 ((encP (eB.times (expo (clampL k)))).getD 31 0) 127)))))))))) rfl rfl rfl (hdep ⟨1, .data⟩ (by simp) rfl)
                        obtain rfl := hsp
                        obtain ⟨vq, hvq, hsq⟩ := hI.haveQ 3 _ 44 (.val (.agg (numsA .u8 (keyOf (ladV (clampL (clampL k)) (ofKey keyG0)))))) rfl rfl rfl (hdep ⟨3, .data⟩ (by simp) rfl)
                        obtain rfl := hsq
                        exact hI.pureQ (by kernel_rfl) hls rfl rfl rfl (.bool true) (run_eqlK (b := true) rfl (eval_of hvp) (eval_of hvq) (keyOf_length _) (keyOf_length _) (decide_eq_true (congrArg keyOf (curves_eq hl hd))) wn) (.val (.bool true)) rfl rfl rfl hK'
                      · obtain rfl := Option.some.inj ho
                        obtain ⟨vp, hvp, hsp⟩ := hI.haveQ 4 _ 45 (.val (.bool true)) rfl rfl rfl (hdep ⟨4, .data⟩ (by simp) rfl)
                        obtain rfl := hsp
                        exact hI.pureQ (by kernel_rfl) hls rfl rfl rfl (.bool true) (run_moveQ (.inr rfl) (eval_of hvp) wn) (.val (.bool true)) rfl rfl rfl hK'
                      · exact hi.elim
                    · intro fuel an w10 hf hI
                      obtain ⟨vr9_0, hvr9_0, hsr9_0⟩ := hI.haveQ 0 _ 41 (.val (.agg ar8_8)) rfl rfl rfl rfl
                      obtain rfl := hsr9_0
                      obtain ⟨vr9_1, hvr9_1, hsr9_1⟩ := hI.haveQ 1 _ 42 (.val (.agg (numsA .u8 (keyOf (((fv 1) + (ofKey ((encP (eB.times (expo (clampL k)))).set 31 (bits .and .u8 ((encP (eB.times (expo (clampL k)))).getD 31 0) 127)))) * (finv ((fv 1) - (ofKey ((encP (eB.times (expo (clampL k)))).set 31 (bits .and .u8 ((encP (eB.times (expo (clampL k)))).getD 31 0) 127)))))))))) rfl rfl rfl rfl
                      obtain rfl := hsr9_1
                      obtain ⟨vr9_2, hvr9_2, hsr9_2⟩ := hI.haveQ 2 _ 43 (.val (.agg (numsA .u8 (clampL k)))) rfl rfl rfl rfl
                      obtain rfl := hsr9_2
                      obtain ⟨vr9_3, hvr9_3, hsr9_3⟩ := hI.haveQ 3 _ 44 (.val (.agg (numsA .u8 (keyOf (ladV (clampL (clampL k)) (ofKey keyG0)))))) rfl rfl rfl rfl
                      obtain rfl := hsr9_3
                      obtain ⟨vr9_4, hvr9_4, hsr9_4⟩ := hI.haveQ 4 _ 45 (.val (.bool true)) rfl rfl rfl rfl
                      obtain rfl := hsr9_4
                      obtain ⟨vr9_5, hvr9_5, hsr9_5⟩ := hI.haveQ 5 _ 2 (.val (.bool true)) rfl rfl rfl rfl
                      obtain rfl := hsr9_5
                      have hupd := hI.upd
                      have ha := hI.act [(41, .agg ar8_8), (42, .agg (numsA .u8 (keyOf (((fv 1) + (ofKey ((encP (eB.times (expo (clampL k)))).set 31 (bits .and .u8 ((encP (eB.times (expo (clampL k)))).getD 31 0) 127)))) * (finv ((fv 1) - (ofKey ((encP (eB.times (expo (clampL k)))).set 31 (bits .and .u8 ((encP (eB.times (expo (clampL k)))).getD 31 0) 127))))))))), (43, .agg (numsA .u8 (clampL k))), (44, .agg (numsA .u8 (keyOf (ladV (clampL (clampL k)) (ofKey keyG0))))), (45, .bool true), (2, .bool true)] (by simp [hvr9_0, hvr9_1, hvr9_2, hvr9_3, hvr9_4, hvr9_5]) (by kernel_rfl)
                      clear hI hvr9_0 hvr9_1 hvr9_2 hvr9_3 hvr9_4 hvr9_5
                      subst ha
                      simp only [List.foldl_cons, List.foldl_nil, List.setIfInBounds_toArray, List.set_cons_zero, List.set_cons_succ]
                      have Bxr0y0_9 := Lib.hid (hupd.blk (show Blk ws8_0.drew br0_0 23 (numsA .u8 (clampL k)) from Bxr0y0_s8_0.out) (fun h => h))
                      have Bxr2y2_9 := Lib.hid (hupd.blk (show Blk ws8_0.drew br2_2 23 (numsA .u8 (encP eB)) from Bxr2y2_s8_0.out) (fun h => h))
                      have Bxr4y4_9 := Lib.hid (hupd.blk (show Blk ws8_0.drew br4_4 23 (numsA .u8 ((encP (eB.times (expo (clampL k)))).set 31 (bits .and .u8 ((encP (eB.times (expo (clampL k)))).getD 31 0) 127))) from Bxr4y4_s8_0.out) (fun h => h))
                      have Bxr6y2_9 := Lib.hid (hupd.blk (show Blk ws8_0.drew br6_2 39 ar6_1 from Bxr6y2_s8_0.out) (fun h => h))
                      have Bxr7y1_9 := Lib.hid (hupd.blk (show Blk ws8_0.drew br7_1 39 ar7_0 from Bxr7y1_s8_0.out) (fun h => h))
                      have Bxr8y9_9 := Lib.hid (hupd.blk (show Blk ws8_0.drew br8_9 39 ar8_8 from Bxr8y9_s8_0.out) (fun h => h))
                      have HU9 := Lib.hid (HU8_0.out.drew.trans hupd)
                      clear hupd
                      refine wpAny_done (by kernel_rfl) ?_ _
                      refine hK10 _ _ ?_
                      clear hK10
                      refine wp_ret ?_
                      try dsimp only [Exit.then]
                      try dsimp only [Exit.inBlock]
                      exact bodyPost_ret (v := .bool true) (results_tmpQ (fn := Tryd.f15) (t := 2) rfl _ _ (.bool true) rfl) rfl ⟨rfl, HU9.out⟩
end Go.Proofs.YtdpafemcpbhlfaaDoor
