/-
  The walk of agrees.
-/
import Derived.Test.YtdpafemcpbhlfaaDoorLad2
import Derived.Test.YtdpafemcpbhlfaaDoorLadEval
import Derived.Test.YtdpafemcpbhlfaaDoorPv
namespace Go.Proofs.YtdpafemcpbhlfaaDoor
set_option maxRecDepth 100000
open Go.RowKit

def keyJ0 : List Int := [1, 0, 0, 0, 0, 0, 0, 0, 0, 0, 0, 0, 0, 0, 0, 0, 0, 0, 0, 0, 0, 0, 0, 0, 0, 0, 0, 0, 0, 0, 0, 0]
theorem keyJ0_length : keyJ0.length = 32 := rfl
theorem keyJ0_digs : Digs 256 keyJ0 := digs_of_all (by decide)
theorem keyJ0_run {o : Oper} {a : Act} (ho : o.op = .build 23 #[(0, .const (.int .u8 1))]) (w : World) : (execOp a.eval o).run Tryd.prog w = .ok (.value (.agg (numsA .u8 keyJ0))) w := by
  have hb : (Instr.build 23 #[(0, .int .u8 1)]).run Tryd.prog w = .ok (.agg (numsA .u8 keyJ0)) w := by kernel_rfl
  have hm : (#[(0, .const (.int .u8 1))] : Array (Nat × Operand)).map (fun (i, x) => (i, a.eval x)) = #[(0, .int .u8 1)] := by simp [Act.eval]
  unfold execOp
  simp only [ho]
  rw [hm, Sem.run_bind, hb]
  rfl
def keyJ1 : List Int := [2, 3, 0, 0, 0, 0, 0, 0, 0, 0, 0, 0, 0, 0, 0, 0, 0, 0, 0, 0, 0, 0, 0, 0, 0, 0, 0, 0, 0, 0, 0, 0]
theorem keyJ1_length : keyJ1.length = 32 := rfl
theorem keyJ1_digs : Digs 256 keyJ1 := digs_of_all (by decide)
theorem keyJ1_run {o : Oper} {a : Act} (ho : o.op = .build 23 #[(0, .const (.int .u8 2)), (1, .const (.int .u8 3))]) (w : World) : (execOp a.eval o).run Tryd.prog w = .ok (.value (.agg (numsA .u8 keyJ1))) w := by
  have hb : (Instr.build 23 #[(0, .int .u8 2), (1, .int .u8 3)]).run Tryd.prog w = .ok (.agg (numsA .u8 keyJ1)) w := by kernel_rfl
  have hm : (#[(0, .const (.int .u8 2)), (1, .const (.int .u8 3))] : Array (Nat × Operand)).map (fun (i, x) => (i, a.eval x)) = #[(0, .int .u8 2), (1, .int .u8 3)] := by simp [Act.eval]
  unfold execOp
  simp only [ho]
  rw [hm, Sem.run_bind, hb]
  rfl
theorem vJ_swap : ladV (clampL keyJ0) (ofKey (keyOf (ladV (clampL keyJ1) (ofKey keyG0)))) = ladV (clampL keyJ1) (ofKey (keyOf (ladV (clampL keyJ0) (ofKey keyG0)))) := lad_swap keyJ0_length keyJ0_digs keyJ1_length keyJ1_digs (ofKey keyG0)
theorem vJ_ne : ¬ ladV (clampL keyJ0) (ofKey (keyOf (ladV (clampL keyJ1) (ofKey keyG0)))) = 0 := fun e => by
  have h := ladV_eval (clampL keyJ0) (ofKey (keyOf (ladV (clampL keyJ1) (ofKey keyG0))))
  rw [e, ofKey_keyOf, ladV_eval, show (ofKey keyG0).val = 9 by decide +kernel] at h
  exact absurd h (by decide +kernel)
set_option maxHeartbeats 4000000 in
theorem agreesL (w : World) (hT : Tw w) :
    Calls Tryd.prog 16 #[] w fun e w' => e = .returned (.bool true) ∧ Upd (fun _ => False) w w' := by
  have HT := Lib.hid hT
  clear hT
  have HU := Lib.hid (Upd.refl (fun _ => False) w)
  have hne : ¬ (ladV (clampL keyJ0) (ofKey (keyOf (ladV (clampL keyJ1) (ofKey keyG0))))) = 0 := vJ_ne
  have hsw : (ladV (clampL keyJ0) (ofKey (keyOf (ladV (clampL keyJ1) (ofKey keyG0))))) = (ladV (clampL keyJ1) (ofKey (keyOf (ladV (clampL keyJ0) (ofKey keyG0))))) := vJ_swap
  have f1 : decide (agE (ladV (clampL keyJ0) (ofKey (keyOf (ladV (clampL keyJ1) (ofKey keyG0))))) = 0) = true := decide_eq_true (if_neg (fun h => hne ((keyOf_eq_zero _).1 h)))
  have f2 : decide (agE (ladV (clampL keyJ1) (ofKey (keyOf (ladV (clampL keyJ0) (ofKey keyG0))))) = 0) = true := (hsw ▸ f1)
  have f3 : decide (keyOf (ladV (clampL keyJ0) (ofKey (keyOf (ladV (clampL keyJ1) (ofKey keyG0))))) = keyOf (ladV (clampL keyJ1) (ofKey (keyOf (ladV (clampL keyJ0) (ofKey keyG0)))))) = true := decide_eq_true (congrArg keyOf hsw)
  have f4 : decide (keyOf (ladV (clampL keyJ0) (ofKey (keyOf (ladV (clampL keyJ1) (ofKey keyG0))))) = zeroKL) = false := decide_eq_false (fun h => hne ((keyOf_eq_zero _).1 h))
  clear hne hsw
  go_enter Tryd.func16, Tryd.ntmps16
  refine wp_seq_k fun K0 hK0 => ?_
  refine wp_region_qS 1 #[true] [] ([.val (.bool false)] : List SQ) (by kernel_rfl) (by kernel_rfl) (by kernel_rfl) ?_ ?_
  · intro i o listed an wn ho hls hst hun hdep hI hpre K' hK'
    have hi : i = 0 ∨ False := slot_cases (l := [0]) rfl ho hst
    rcases hi with rfl | hi
    · obtain rfl := Option.some.inj ho
      exact hI.pureQ (by kernel_rfl) hls rfl rfl rfl (.bool false) (run_moveQ (.inr rfl) (show an.eval (.const (.bool false)) = .bool false from rfl) wn) (.val (.bool false)) rfl rfl rfl hK'
    · exact hi.elim
  · intro an w1 hI
    obtain ⟨vr0_0, hvr0_0, hsr0_0⟩ := hI.haveQ 0 _ 0 (.val (.bool false)) rfl rfl rfl rfl
    obtain rfl := hsr0_0
    have hupd := hI.upd
    have ha := hI.act [(0, .bool false)] (by simp [hvr0_0]) (by kernel_rfl)
    clear hI hvr0_0
    subst ha
    simp only [List.foldl_cons, List.foldl_nil, List.setIfInBounds_toArray, List.set_cons_zero]
    have HU0 := Lib.hid (HU.out.trans hupd)
    clear hupd
    refine wpOps_nil ?_
    refine hK0 _ _ ?_
    clear hK0
    refine wp_seq_k fun K1 hK1 => ?_
    refine wp_region_qS 4 #[true, true, true, true, false, false] [4, 5] ([.val (.agg (numsA .u8 keyJ0)), .val (.agg (numsA .u8 keyJ1)), .blk ptrTo 23 (fun z => z = numsA .u8 zeroKL), .blk ptrTo 23 (fun z => z = numsA .u8 zeroKL), .val undef, .val undef] : List SQ) (by kernel_rfl) (by kernel_rfl) (by kernel_rfl) ?_ ?_
    · intro i o listed an wn ho hls hst hun hdep hI hpre K' hK'
      have hi : i = 0 ∨ i = 1 ∨ i = 2 ∨ i = 3 ∨ False := slot_cases (l := [0, 1, 2, 3]) rfl ho hst
      rcases hi with rfl | rfl | rfl | rfl | hi
      · obtain rfl := Option.some.inj ho
        exact hI.pureQ (by kernel_rfl) hls rfl rfl rfl (.agg (numsA .u8 keyJ0)) (keyJ0_run rfl wn) (.val (.agg (numsA .u8 keyJ0))) rfl rfl rfl hK'
      · obtain rfl := Option.some.inj ho
        exact hI.pureQ (by kernel_rfl) hls rfl rfl rfl (.agg (numsA .u8 keyJ1)) (keyJ1_run rfl wn) (.val (.agg (numsA .u8 keyJ1))) rfl rfl rfl hK'
      · obtain rfl := Option.some.inj ho
        exact hI.newQ (by kernel_rfl) hls (Nat.le_refl _) (newsQ_spec (l := [2, 3]) (by kernel_rfl) ⟨⟨_, _, rfl⟩, ⟨_, _, rfl⟩, trivial⟩) rfl rfl rfl 23 _ (fun z => z = numsA .u8 zeroKL) (run_allocQ rfl zeroK_run wn) rfl rfl hK'
      · obtain rfl := Option.some.inj ho
        exact hI.newQ (by kernel_rfl) hls (Nat.le_refl _) (newsQ_spec (l := [2, 3]) (by kernel_rfl) ⟨⟨_, _, rfl⟩, ⟨_, _, rfl⟩, trivial⟩) rfl rfl rfl 23 _ (fun z => z = numsA .u8 zeroKL) (run_allocQ rfl zeroK_run wn) rfl rfl hK'
      · exact hi.elim
    · intro an w2 hI
      obtain ⟨vr1_0, hvr1_0, hsr1_0⟩ := hI.haveQ 0 _ 7 (.val (.agg (numsA .u8 keyJ0))) rfl rfl rfl rfl
      obtain rfl := hsr1_0
      obtain ⟨vr1_1, hvr1_1, hsr1_1⟩ := hI.haveQ 1 _ 8 (.val (.agg (numsA .u8 keyJ1))) rfl rfl rfl rfl
      obtain rfl := hsr1_1
      obtain ⟨vr1_2, hvr1_2, br1_2, zr1_2, rfl, hnr1_2, hbr1_2, hzr1_2⟩ := hI.haveQ 2 _ 1 (.blk ptrTo 23 (fun z => z = numsA .u8 zeroKL)) rfl rfl rfl rfl
      rw [hzr1_2] at hbr1_2
      clear hzr1_2
      obtain ⟨vr1_3, hvr1_3, br1_3, zr1_3, rfl, hnr1_3, hbr1_3, hzr1_3⟩ := hI.haveQ 3 _ 2 (.blk ptrTo 23 (fun z => z = numsA .u8 zeroKL)) rfl rfl rfl rfl
      rw [hzr1_3] at hbr1_3
      clear hzr1_3
      have hupd := hI.upd
      have hner1_2_r1_3 := Lib.hid (show br1_2 ≠ br1_3 from fun e => hI.apart 2 3 _ _ 1 2 (by omega) rfl rfl rfl rfl rfl rfl rfl rfl (by rw [hvr1_2, hvr1_3, e]))
      have ha := hI.act [(7, .agg (numsA .u8 keyJ0)), (8, .agg (numsA .u8 keyJ1)), (1, ptrTo br1_2), (2, ptrTo br1_3)] (by simp [hvr1_0, hvr1_1, hvr1_2, hvr1_3]) (by kernel_rfl)
      clear hI hvr1_0 hvr1_1 hvr1_2 hvr1_3
      subst ha
      simp only [List.foldl_cons, List.foldl_nil, List.setIfInBounds_toArray, List.set_cons_zero, List.set_cons_succ]
      have hger1_2 := Lib.hid (Nat.le_trans HU0.out.size hnr1_2)
      have hger1_3 := Lib.hid (Nat.le_trans HU0.out.size hnr1_3)
      have Bxr1y2 := Lib.hid hbr1_2
      have Bxr1y3 := Lib.hid hbr1_3
      have HU1 := Lib.hid (HU0.out.trans hupd)
      clear hupd
      refine wpOps_storeQ 4 rfl rfl rfl 23 (.tmp 1) (.tmp 7) rfl br1_2 0 32 rfl (numsA .u8 keyJ0) rfl 23 (numsA .u8 zeroKL) Bxr1y2.out sizeKey (by rw [numsA_size]; exact keyJ0_length) (by rw [(show (numsA _ _).size = 32 by rw [numsA_size]; exact zeroKL_length)]; exact Nat.le_of_ble_eq_true rfl) (numsA_one _ _) ?_
      intro ws1_0 hs1_0 hus1_0
      rw [splice_all _ _ 32 (show (numsA _ _).size = 32 by rw [numsA_size]; exact zeroKL_length) (by rw [numsA_size]; exact keyJ0_length)] at hs1_0
      have Bxr1y3_s1_0 := Lib.hid (hus1_0.blk Bxr1y3.out (fun e => hner1_2_r1_3.out e.symm))
      have Bxr1y2_s1_0 := Lib.hid hs1_0
      have HU1_0 := Lib.hid (HU1.out.step hus1_0 (fun i hi h => absurd hi (Nat.not_lt.2 (h.symm ▸ hger1_2.out))))
      clear hs1_0 hus1_0
      refine wpOps_storeQ 5 rfl rfl rfl 23 (.tmp 2) (.tmp 8) rfl br1_3 0 32 rfl (numsA .u8 keyJ1) rfl 23 (numsA .u8 zeroKL) Bxr1y3_s1_0.out sizeKey (by rw [numsA_size]; exact keyJ1_length) (by rw [(show (numsA _ _).size = 32 by rw [numsA_size]; exact zeroKL_length)]; exact Nat.le_of_ble_eq_true rfl) (numsA_one _ _) ?_
      intro ws1_1 hs1_1 hus1_1
      rw [splice_all _ _ 32 (show (numsA _ _).size = 32 by rw [numsA_size]; exact zeroKL_length) (by rw [numsA_size]; exact keyJ1_length)] at hs1_1
      have Bxr1y2_s1_1 := Lib.hid (hus1_1.blk Bxr1y2_s1_0.out (fun e => hner1_2_r1_3.out e))
      have Bxr1y3_s1_1 := Lib.hid hs1_1
      have HU1_1 := Lib.hid (HU1_0.out.step hus1_1 (fun i hi h => absurd hi (Nat.not_lt.2 (h.symm ▸ hger1_3.out))))
      clear hs1_1 hus1_1
      refine wpOps_nil ?_
      refine hK1 _ _ ?_
      clear hK1
      refine wp_seq_k fun K2 hK2 => ?_
      refine wp_region_r #[true, true, true, true, true, true, true, true, true, true] ([.val (.agg (numsA .u8 keyJ0)), .val (.agg (numsA .u8 keyJ1)), .val (.agg (numsA .u8 (keyOf (ladV (clampL keyJ1) (ofKey keyG0))))), .val (.tuple #[.agg (numsA .u8 (keyOf (ladV (clampL keyJ0) (ofKey (keyOf (ladV (clampL keyJ1) (ofKey keyG0))))))), .int .i64 (agE (ladV (clampL keyJ0) (ofKey (keyOf (ladV (clampL keyJ1) (ofKey keyG0))))))]), .val (.tuple #[.agg (numsA .u8 (keyOf (ladV (clampL keyJ0) (ofKey (keyOf (ladV (clampL keyJ1) (ofKey keyG0))))))), .int .i64 (agE (ladV (clampL keyJ0) (ofKey (keyOf (ladV (clampL keyJ1) (ofKey keyG0))))))]), .val (.agg (numsA .u8 (keyOf (ladV (clampL keyJ0) (ofKey (keyOf (ladV (clampL keyJ1) (ofKey keyG0)))))))), .val (.int .i64 (agE (ladV (clampL keyJ0) (ofKey (keyOf (ladV (clampL keyJ1) (ofKey keyG0))))))), .new 23 32, .val undef, .val (.int .i64 (agE (ladV (clampL keyJ0) (ofKey (keyOf (ladV (clampL keyJ1) (ofKey keyG0)))))))] : List SR) ([none, none, none, none, none, none, none, none, some ⟨3, 7, 23, fun z => z = numsA .u8 (keyOf (ladV (clampL keyJ0) (ofKey (keyOf (ladV (clampL keyJ1) (ofKey keyG0))))))⟩, none] : List (Option St)) (by kernel_rfl) (by kernel_rfl) (by kernel_rfl) ?_ ?_
      · intro i o listed an wn ho hls hst hun hdep hI K' hK'
        have hi : i = 0 ∨ i = 1 ∨ i = 2 ∨ i = 3 ∨ i = 4 ∨ i = 5 ∨ i = 6 ∨ i = 7 ∨ i = 8 ∨ i = 9 ∨ False := slot_cases (l := [0, 1, 2, 3, 4, 5, 6, 7, 8, 9]) rfl ho hst
        rcases hi with rfl | rfl | rfl | rfl | rfl | rfl | rfl | rfl | rfl | rfl | hi
        · obtain rfl := Option.some.inj ho
          have hvp : an.eval (.tmp 1) = ptrTo br1_2 := hI.old (by kernel_rfl) rfl
          exact hI.pure (by kernel_rfl) (by kernel_rfl) hls hun rfl rfl rfl _ (run_loadQ rfl hvp wn (hI.sl.upd.blk (show Blk ws1_1.drew br1_2 23 (numsA .u8 keyJ0) from Bxr1y2_s1_1.out) (fun h => h)) Tryd.underlying23 rfl sizeKey (by rw [numsA_size, keyJ0_length]; omega)) (.val (.agg (numsA .u8 keyJ0))) rfl (congrArg Value.agg (extract_all _ 32 (by rw [numsA_size]; exact keyJ0_length))) rfl hK'
        · obtain rfl := Option.some.inj ho
          have hvp : an.eval (.tmp 2) = ptrTo br1_3 := hI.old (by kernel_rfl) rfl
          exact hI.pure (by kernel_rfl) (by kernel_rfl) hls hun rfl rfl rfl _ (run_loadQ rfl hvp wn (hI.sl.upd.blk (show Blk ws1_1.drew br1_3 23 (numsA .u8 keyJ1) from Bxr1y3_s1_1.out) (fun h => h)) Tryd.underlying23 rfl sizeKey (by rw [numsA_size, keyJ1_length]; omega)) (.val (.agg (numsA .u8 keyJ1))) rfl (congrArg Value.agg (extract_all _ 32 (by rw [numsA_size]; exact keyJ1_length))) rfl hK'
        · obtain rfl := Option.some.inj ho
          obtain ⟨vp, hvp, hsp⟩ := hI.have 1 _ 11 (.val (.agg (numsA .u8 keyJ1))) rfl rfl rfl (hdep ⟨1, .data⟩ (by simp) rfl)
          obtain rfl := hsp
          exact hI.call (by kernel_rfl) (by kernel_rfl) hls hun rfl rfl rfl 21 #[.tmp 11] _ rfl #[.agg (numsA .u8 keyJ1)] (by simp [eval_of hvp]) (run_enter Tryd.func21 (by kernel_rfl) (by kernel_rfl)) (.val (.agg (numsA .u8 (keyOf (ladV (clampL keyJ1) (ofKey keyG0)))))) rfl rfl ((publicL _ (HT.out.upd (HU1_1.out.drew.trans hI.sl.upd)) keyJ1_length keyJ1_digs).mono fun _ _ h => ret_valR h) hK'
        · obtain rfl := Option.some.inj ho
          obtain ⟨vp, hvp, hsp⟩ := hI.have 0 _ 10 (.val (.agg (numsA .u8 keyJ0))) rfl rfl rfl (hdep ⟨0, .data⟩ (by simp) rfl)
          obtain rfl := hsp
          obtain ⟨vq, hvq, hsq⟩ := hI.have 2 _ 12 (.val (.agg (numsA .u8 (keyOf (ladV (clampL keyJ1) (ofKey keyG0)))))) rfl rfl rfl (hdep ⟨2, .data⟩ (by simp) rfl)
          obtain rfl := hsq
          exact hI.call (by kernel_rfl) (by kernel_rfl) hls hun rfl rfl rfl 19 #[.tmp 10, .tmp 12] _ rfl #[.agg (numsA .u8 keyJ0), .agg (numsA .u8 (keyOf (ladV (clampL keyJ1) (ofKey keyG0))))] (by simp [eval_of hvp, eval_of hvq]) (run_enter Tryd.func19 (by kernel_rfl) (by kernel_rfl)) (.val (.tuple #[.agg (numsA .u8 (keyOf (ladV (clampL keyJ0) (ofKey (keyOf (ladV (clampL keyJ1) (ofKey keyG0))))))), .int .i64 (agE (ladV (clampL keyJ0) (ofKey (keyOf (ladV (clampL keyJ1) (ofKey keyG0))))))])) rfl rfl ((agreeL _ (HT.out.upd (HU1_1.out.drew.trans hI.sl.upd)) keyJ0_length keyJ0_digs (keyOf_length _) (keyOf_digs _)).mono fun _ _ h => ret_valR h) hK'
        · obtain rfl := Option.some.inj ho
          obtain ⟨vp, hvp, hsp⟩ := hI.have 3 _ 13 (.val (.tuple #[.agg (numsA .u8 (keyOf (ladV (clampL keyJ0) (ofKey (keyOf (ladV (clampL keyJ1) (ofKey keyG0))))))), .int .i64 (agE (ladV (clampL keyJ0) (ofKey (keyOf (ladV (clampL keyJ1) (ofKey keyG0))))))])) rfl rfl rfl (hdep ⟨3, .data⟩ (by simp) rfl)
          obtain rfl := hsp
          exact hI.pure (by kernel_rfl) (by kernel_rfl) hls hun rfl rfl rfl (.tuple #[.agg (numsA .u8 (keyOf (ladV (clampL keyJ0) (ofKey (keyOf (ladV (clampL keyJ1) (ofKey keyG0))))))), .int .i64 (agE (ladV (clampL keyJ0) (ofKey (keyOf (ladV (clampL keyJ1) (ofKey keyG0))))))]) (run_moveQ (.inl rfl) (eval_of hvp) wn) (.val (.tuple #[.agg (numsA .u8 (keyOf (ladV (clampL keyJ0) (ofKey (keyOf (ladV (clampL keyJ1) (ofKey keyG0))))))), .int .i64 (agE (ladV (clampL keyJ0) (ofKey (keyOf (ladV (clampL keyJ1) (ofKey keyG0))))))])) rfl rfl rfl hK'
        · obtain rfl := Option.some.inj ho
          obtain ⟨vp, hvp, hsp⟩ := hI.have 4 _ 9 (.val (.tuple #[.agg (numsA .u8 (keyOf (ladV (clampL keyJ0) (ofKey (keyOf (ladV (clampL keyJ1) (ofKey keyG0))))))), .int .i64 (agE (ladV (clampL keyJ0) (ofKey (keyOf (ladV (clampL keyJ1) (ofKey keyG0))))))])) rfl rfl rfl (hdep ⟨4, .data⟩ (by simp) rfl)
          obtain rfl := hsp
          exact hI.pure (by kernel_rfl) (by kernel_rfl) hls hun rfl rfl rfl (.agg (numsA .u8 (keyOf (ladV (clampL keyJ0) (ofKey (keyOf (ladV (clampL keyJ1) (ofKey keyG0)))))))) (run_extractQ rfl (eval_of hvp) rfl wn) (.val (.agg (numsA .u8 (keyOf (ladV (clampL keyJ0) (ofKey (keyOf (ladV (clampL keyJ1) (ofKey keyG0))))))))) rfl rfl rfl hK'
        · obtain rfl := Option.some.inj ho
          obtain ⟨vp, hvp, hsp⟩ := hI.have 4 _ 9 (.val (.tuple #[.agg (numsA .u8 (keyOf (ladV (clampL keyJ0) (ofKey (keyOf (ladV (clampL keyJ1) (ofKey keyG0))))))), .int .i64 (agE (ladV (clampL keyJ0) (ofKey (keyOf (ladV (clampL keyJ1) (ofKey keyG0))))))])) rfl rfl rfl (hdep ⟨4, .data⟩ (by simp) rfl)
          obtain rfl := hsp
          exact hI.pure (by kernel_rfl) (by kernel_rfl) hls hun rfl rfl rfl (.int .i64 (agE (ladV (clampL keyJ0) (ofKey (keyOf (ladV (clampL keyJ1) (ofKey keyG0))))))) (run_extractQ rfl (eval_of hvp) rfl wn) (.val (.int .i64 (agE (ladV (clampL keyJ0) (ofKey (keyOf (ladV (clampL keyJ1) (ofKey keyG0)))))))) rfl rfl rfl hK'
        · obtain rfl := Option.some.inj ho
          exact hI.new (by kernel_rfl) (by kernel_rfl) hls hun (newsR_spec (l := [7]) (by kernel_rfl) ⟨⟨_, _, rfl⟩, trivial⟩) rfl rfl rfl 23 zeroK (run_allocQ rfl zeroK_run wn) rfl hK'
        · obtain rfl := Option.some.inj ho
          obtain ⟨vp, hvp, hsp⟩ := hI.have 5 _ 14 (.val (.agg (numsA .u8 (keyOf (ladV (clampL keyJ0) (ofKey (keyOf (ladV (clampL keyJ1) (ofKey keyG0))))))))) rfl rfl rfl (hdep ⟨5, .data⟩ (by simp) rfl)
          obtain rfl := hsp
          exact hI.store (by kernel_rfl) hls hdep rfl rfl rfl ⟨3, 7, 23, fun z => z = numsA .u8 (keyOf (ladV (clampL keyJ0) (ofKey (keyOf (ladV (clampL keyJ1) (ofKey keyG0))))))⟩ rfl ⟨7, .data⟩ (by simp) rfl rfl 32 rfl 23 (.tmp 14) rfl (numsA .u8 (keyOf (ladV (clampL keyJ0) (ofKey (keyOf (ladV (clampL keyJ1) (ofKey keyG0))))))) (eval_of hvp) sizeKey (by rw [numsA_size]; exact keyOf_length _) (numsA_one _ _) rfl hK'
        · obtain rfl := Option.some.inj ho
          obtain ⟨vp, hvp, hsp⟩ := hI.have 6 _ 15 (.val (.int .i64 (agE (ladV (clampL keyJ0) (ofKey (keyOf (ladV (clampL keyJ1) (ofKey keyG0)))))))) rfl rfl rfl (hdep ⟨6, .data⟩ (by simp) rfl)
          obtain rfl := hsp
          exact hI.pure (by kernel_rfl) (by kernel_rfl) hls hun rfl rfl rfl (.int .i64 (agE (ladV (clampL keyJ0) (ofKey (keyOf (ladV (clampL keyJ1) (ofKey keyG0))))))) (run_moveQ (.inr rfl) (eval_of hvp) wn) (.val (.int .i64 (agE (ladV (clampL keyJ0) (ofKey (keyOf (ladV (clampL keyJ1) (ofKey keyG0)))))))) rfl rfl rfl hK'
        · exact hi.elim
      · intro fuel an w3 hf hI
        obtain ⟨vr2_0, hvr2_0, hsr2_0⟩ := hI.have 0 _ 10 (.val (.agg (numsA .u8 keyJ0))) rfl rfl rfl rfl
        obtain rfl := hsr2_0
        obtain ⟨vr2_1, hvr2_1, hsr2_1⟩ := hI.have 1 _ 11 (.val (.agg (numsA .u8 keyJ1))) rfl rfl rfl rfl
        obtain rfl := hsr2_1
        obtain ⟨vr2_2, hvr2_2, hsr2_2⟩ := hI.have 2 _ 12 (.val (.agg (numsA .u8 (keyOf (ladV (clampL keyJ1) (ofKey keyG0)))))) rfl rfl rfl rfl
        obtain rfl := hsr2_2
        obtain ⟨vr2_3, hvr2_3, hsr2_3⟩ := hI.have 3 _ 13 (.val (.tuple #[.agg (numsA .u8 (keyOf (ladV (clampL keyJ0) (ofKey (keyOf (ladV (clampL keyJ1) (ofKey keyG0))))))), .int .i64 (agE (ladV (clampL keyJ0) (ofKey (keyOf (ladV (clampL keyJ1) (ofKey keyG0))))))])) rfl rfl rfl rfl
        obtain rfl := hsr2_3
        obtain ⟨vr2_4, hvr2_4, hsr2_4⟩ := hI.have 4 _ 9 (.val (.tuple #[.agg (numsA .u8 (keyOf (ladV (clampL keyJ0) (ofKey (keyOf (ladV (clampL keyJ1) (ofKey keyG0))))))), .int .i64 (agE (ladV (clampL keyJ0) (ofKey (keyOf (ladV (clampL keyJ1) (ofKey keyG0))))))])) rfl rfl rfl rfl
        obtain rfl := hsr2_4
        obtain ⟨vr2_5, hvr2_5, hsr2_5⟩ := hI.have 5 _ 14 (.val (.agg (numsA .u8 (keyOf (ladV (clampL keyJ0) (ofKey (keyOf (ladV (clampL keyJ1) (ofKey keyG0))))))))) rfl rfl rfl rfl
        obtain rfl := hsr2_5
        obtain ⟨vr2_6, hvr2_6, hsr2_6⟩ := hI.have 6 _ 15 (.val (.int .i64 (agE (ladV (clampL keyJ0) (ofKey (keyOf (ladV (clampL keyJ1) (ofKey keyG0)))))))) rfl rfl rfl rfl
        obtain rfl := hsr2_6
        obtain ⟨vr2_7, hvr2_7, br2_7, zr2_7, rfl, hnr2_7, hbr2_7, hzr2_7⟩ := hI.have 7 _ 3 (.new 23 32) rfl rfl rfl rfl
        obtain ⟨vr2_9, hvr2_9, hsr2_9⟩ := hI.have 9 _ 4 (.val (.int .i64 (agE (ladV (clampL keyJ0) (ofKey (keyOf (ladV (clampL keyJ1) (ofKey keyG0)))))))) rfl rfl rfl rfl
        obtain rfl := hsr2_9
        obtain ⟨-, cr2_8, yr2_8, hpr2_8, hBr2_8, hyr2_8⟩ := hI.mem 8 ⟨3, 7, 23, fun z => z = numsA .u8 (keyOf (ladV (clampL keyJ0) (ofKey (keyOf (ladV (clampL keyJ1) (ofKey keyG0))))))⟩ rfl rfl
        obtain rfl := ptr_inj (hvr2_7.symm.trans hpr2_8)
        have hyr2_8 : yr2_8 = numsA .u8 (keyOf (ladV (clampL keyJ0) (ofKey (keyOf (ladV (clampL keyJ1) (ofKey keyG0)))))) := hyr2_8
        subst hyr2_8
        have hupd := hI.sl.upd
        have ha := hI.sl.act [(10, .agg (numsA .u8 keyJ0)), (11, .agg (numsA .u8 keyJ1)), (12, .agg (numsA .u8 (keyOf (ladV (clampL keyJ1) (ofKey keyG0))))), (13, .tuple #[.agg (numsA .u8 (keyOf (ladV (clampL keyJ0) (ofKey (keyOf (ladV (clampL keyJ1) (ofKey keyG0))))))), .int .i64 (agE (ladV (clampL keyJ0) (ofKey (keyOf (ladV (clampL keyJ1) (ofKey keyG0))))))]), (9, .tuple #[.agg (numsA .u8 (keyOf (ladV (clampL keyJ0) (ofKey (keyOf (ladV (clampL keyJ1) (ofKey keyG0))))))), .int .i64 (agE (ladV (clampL keyJ0) (ofKey (keyOf (ladV (clampL keyJ1) (ofKey keyG0))))))]), (14, .agg (numsA .u8 (keyOf (ladV (clampL keyJ0) (ofKey (keyOf (ladV (clampL keyJ1) (ofKey keyG0)))))))), (15, .int .i64 (agE (ladV (clampL keyJ0) (ofKey (keyOf (ladV (clampL keyJ1) (ofKey keyG0))))))), (3, ptrTo cr2_8), (4, .int .i64 (agE (ladV (clampL keyJ0) (ofKey (keyOf (ladV (clampL keyJ1) (ofKey keyG0)))))))] (by simp [hvr2_0, hvr2_1, hvr2_2, hvr2_3, hvr2_4, hvr2_5, hvr2_6, hvr2_7, hvr2_9]) (by kernel_rfl)
        clear hI
        subst ha
        simp only [List.foldl_cons, List.foldl_nil, List.setIfInBounds_toArray, List.set_cons_zero, List.set_cons_succ]
        have hner2_7_Bxr1y2_s1_1 := Lib.hid (show cr2_8 ≠ br1_2 from Nat.ne_of_gt (Nat.lt_of_lt_of_le Bxr1y2_s1_1.out.lt hnr2_7))
        have hner2_7_Bxr1y3_s1_1 := Lib.hid (show cr2_8 ≠ br1_3 from Nat.ne_of_gt (Nat.lt_of_lt_of_le Bxr1y3_s1_1.out.lt hnr2_7))
        have hger2_7 := Lib.hid (Nat.le_trans HU1_1.out.size hnr2_7)
        have Bxr1y2_2 := Lib.hid (hupd.blk (show Blk ws1_1.drew br1_2 23 (numsA .u8 keyJ0) from Bxr1y2_s1_1.out) (fun h => h))
        have Bxr1y3_2 := Lib.hid (hupd.blk (show Blk ws1_1.drew br1_3 23 (numsA .u8 keyJ1) from Bxr1y3_s1_1.out) (fun h => h))
        have Bxr2y7 := Lib.hid hBr2_8
        have HU2 := Lib.hid (HU1_1.out.drew.trans hupd)
        clear hupd
        refine wpAny_done (by kernel_rfl) ?_ _
        refine hK2 _ _ ?_
        clear hK2
        refine wp_seq_k fun K3 hK3 => ?_
        refine wp_region_r #[true, true, true, true, true, true, true, true, true, true] ([.val (.agg (numsA .u8 keyJ1)), .val (.agg (numsA .u8 keyJ0)), .val (.agg (numsA .u8 (keyOf (ladV (clampL keyJ0) (ofKey keyG0))))), .val (.tuple #[.agg (numsA .u8 (keyOf (ladV (clampL keyJ1) (ofKey (keyOf (ladV (clampL keyJ0) (ofKey keyG0))))))), .int .i64 (agE (ladV (clampL keyJ1) (ofKey (keyOf (ladV (clampL keyJ0) (ofKey keyG0))))))]), .val (.tuple #[.agg (numsA .u8 (keyOf (ladV (clampL keyJ1) (ofKey (keyOf (ladV (clampL keyJ0) (ofKey keyG0))))))), .int .i64 (agE (ladV (clampL keyJ1) (ofKey (keyOf (ladV (clampL keyJ0) (ofKey keyG0))))))]), .val (.agg (numsA .u8 (keyOf (ladV (clampL keyJ1) (ofKey (keyOf (ladV (clampL keyJ0) (ofKey keyG0)))))))), .val (.int .i64 (agE (ladV (clampL keyJ1) (ofKey (keyOf (ladV (clampL keyJ0) (ofKey keyG0))))))), .new 23 32, .val undef, .val (.int .i64 (agE (ladV (clampL keyJ1) (ofKey (keyOf (ladV (clampL keyJ0) (ofKey keyG0)))))))] : List SR) ([none, none, none, none, none, none, none, none, some ⟨5, 7, 23, fun z => z = numsA .u8 (keyOf (ladV (clampL keyJ1) (ofKey (keyOf (ladV (clampL keyJ0) (ofKey keyG0))))))⟩, none] : List (Option St)) (by kernel_rfl) (by kernel_rfl) (by kernel_rfl) ?_ ?_
        · intro i o listed an wn ho hls hst hun hdep hI K' hK'
          have hi : i = 0 ∨ i = 1 ∨ i = 2 ∨ i = 3 ∨ i = 4 ∨ i = 5 ∨ i = 6 ∨ i = 7 ∨ i = 8 ∨ i = 9 ∨ False := slot_cases (l := [0, 1, 2, 3, 4, 5, 6, 7, 8, 9]) rfl ho hst
          rcases hi with rfl | rfl | rfl | rfl | rfl | rfl | rfl | rfl | rfl | rfl | hi
          · obtain rfl := Option.some.inj ho
            have hvp : an.eval (.tmp 2) = ptrTo br1_3 := hI.old (by kernel_rfl) rfl
            exact hI.pure (by kernel_rfl) (by kernel_rfl) hls hun rfl rfl rfl _ (run_loadQ rfl hvp wn (hI.sl.upd.blk (show Blk w3.drew br1_3 23 (numsA .u8 keyJ1) from Bxr1y3_2.out) (fun h => h)) Tryd.underlying23 rfl sizeKey (by rw [numsA_size, keyJ1_length]; omega)) (.val (.agg (numsA .u8 keyJ1))) rfl (congrArg Value.agg (extract_all _ 32 (by rw [numsA_size]; exact keyJ1_length))) rfl hK'
          · obtain rfl := Option.some.inj ho
            have hvp : an.eval (.tmp 1) = ptrTo br1_2 := hI.old (by kernel_rfl) rfl
            exact hI.pure (by kernel_rfl) (by kernel_rfl) hls hun rfl rfl rfl _ (run_loadQ rfl hvp wn (hI.sl.upd.blk (show Blk w3.drew br1_2 23 (numsA .u8 keyJ0) from Bxr1y2_2.out) (fun h => h)) Tryd.underlying23 rfl sizeKey (by rw [numsA_size, keyJ0_length]; omega)) (.val (.agg (numsA .u8 keyJ0))) rfl (congrArg Value.agg (extract_all _ 32 (by rw [numsA_size]; exact keyJ0_length))) rfl hK'
          · obtain rfl := Option.some.inj ho
            obtain ⟨vp, hvp, hsp⟩ := hI.have 1 _ 18 (.val (.agg (numsA .u8 keyJ0))) rfl rfl rfl (hdep ⟨1, .data⟩ (by simp) rfl)
            obtain rfl := hsp
            exact hI.call (by kernel_rfl) (by kernel_rfl) hls hun rfl rfl rfl 21 #[.tmp 18] _ rfl #[.agg (numsA .u8 keyJ0)] (by simp [eval_of hvp]) (run_enter Tryd.func21 (by kernel_rfl) (by kernel_rfl)) (.val (.agg (numsA .u8 (keyOf (ladV (clampL keyJ0) (ofKey keyG0)))))) rfl rfl ((publicL _ (HT.out.upd (HU2.out.drew.trans hI.sl.upd)) keyJ0_length keyJ0_digs).mono fun _ _ h => ret_valR h) hK'
          · obtain rfl := Option.some.inj ho
            obtain ⟨vp, hvp, hsp⟩ := hI.have 0 _ 17 (.val (.agg (numsA .u8 keyJ1))) rfl rfl rfl (hdep ⟨0, .data⟩ (by simp) rfl)
            obtain rfl := hsp
            obtain ⟨vq, hvq, hsq⟩ := hI.have 2 _ 19 (.val (.agg (numsA .u8 (keyOf (ladV (clampL keyJ0) (ofKey keyG0)))))) rfl rfl rfl (hdep ⟨2, .data⟩ (by simp) rfl)
            obtain rfl := hsq
            exact hI.call (by kernel_rfl) (by kernel_rfl) hls hun rfl rfl rfl 19 #[.tmp 17, .tmp 19] _ rfl #[.agg (numsA .u8 keyJ1), .agg (numsA .u8 (keyOf (ladV (clampL keyJ0) (ofKey keyG0))))] (by simp [eval_of hvp, eval_of hvq]) (run_enter Tryd.func19 (by kernel_rfl) (by kernel_rfl)) (.val (.tuple #[.agg (numsA .u8 (keyOf (ladV (clampL keyJ1) (ofKey (keyOf (ladV (clampL keyJ0) (ofKey keyG0))))))), .int .i64 (agE (ladV (clampL keyJ1) (ofKey (keyOf (ladV (clampL keyJ0) (ofKey keyG0))))))])) rfl rfl ((agreeL _ (HT.out.upd (HU2.out.drew.trans hI.sl.upd)) keyJ1_length keyJ1_digs (keyOf_length _) (keyOf_digs _)).mono fun _ _ h => ret_valR h) hK'
          · obtain rfl := Option.some.inj ho
            obtain ⟨vp, hvp, hsp⟩ := hI.have 3 _ 20 (.val (.tuple #[.agg (numsA .u8 (keyOf (ladV (clampL keyJ1) (ofKey (keyOf (ladV (clampL keyJ0) (ofKey keyG0))))))), .int .i64 (agE (ladV (clampL keyJ1) (ofKey (keyOf (ladV (clampL keyJ0) (ofKey keyG0))))))])) rfl rfl rfl (hdep ⟨3, .data⟩ (by simp) rfl)
            obtain rfl := hsp
            exact hI.pure (by kernel_rfl) (by kernel_rfl) hls hun rfl rfl rfl (.tuple #[.agg (numsA .u8 (keyOf (ladV (clampL keyJ1) (ofKey (keyOf (ladV (clampL keyJ0) (ofKey keyG0))))))), .int .i64 (agE (ladV (clampL keyJ1) (ofKey (keyOf (ladV (clampL keyJ0) (ofKey keyG0))))))]) (run_moveQ (.inl rfl) (eval_of hvp) wn) (.val (.tuple #[.agg (numsA .u8 (keyOf (ladV (clampL keyJ1) (ofKey (keyOf (ladV (clampL keyJ0) (ofKey keyG0))))))), .int .i64 (agE (ladV (clampL keyJ1) (ofKey (keyOf (ladV (clampL keyJ0) (ofKey keyG0))))))])) rfl rfl rfl hK'
          · obtain rfl := Option.some.inj ho
            obtain ⟨vp, hvp, hsp⟩ := hI.have 4 _ 16 (.val (.tuple #[.agg (numsA .u8 (keyOf (ladV (clampL keyJ1) (ofKey (keyOf (ladV (clampL keyJ0) (ofKey keyG0))))))), .int .i64 (agE (ladV (clampL keyJ1) (ofKey (keyOf (ladV (clampL keyJ0) (ofKey keyG0))))))])) rfl rfl rfl (hdep ⟨4, .data⟩ (by simp) rfl)
            obtain rfl := hsp
            exact hI.pure (by kernel_rfl) (by kernel_rfl) hls hun rfl rfl rfl (.agg (numsA .u8 (keyOf (ladV (clampL keyJ1) (ofKey (keyOf (ladV (clampL keyJ0) (ofKey keyG0)))))))) (run_extractQ rfl (eval_of hvp) rfl wn) (.val (.agg (numsA .u8 (keyOf (ladV (clampL keyJ1) (ofKey (keyOf (ladV (clampL keyJ0) (ofKey keyG0))))))))) rfl rfl rfl hK'
          · obtain rfl := Option.some.inj ho
            obtain ⟨vp, hvp, hsp⟩ := hI.have 4 _ 16 (.val (.tuple #[.agg (numsA .u8 (keyOf (ladV (clampL keyJ1) (ofKey (keyOf (ladV (clampL keyJ0) (ofKey keyG0))))))), .int .i64 (agE (ladV (clampL keyJ1) (ofKey (keyOf (ladV (clampL keyJ0) (ofKey keyG0))))))])) rfl rfl rfl (hdep ⟨4, .data⟩ (by simp) rfl)
            obtain rfl := hsp
            exact hI.pure (by kernel_rfl) (by kernel_rfl) hls hun rfl rfl rfl (.int .i64 (agE (ladV (clampL keyJ1) (ofKey (keyOf (ladV (clampL keyJ0) (ofKey keyG0))))))) (run_extractQ rfl (eval_of hvp) rfl wn) (.val (.int .i64 (agE (ladV (clampL keyJ1) (ofKey (keyOf (ladV (clampL keyJ0) (ofKey keyG0)))))))) rfl rfl rfl hK'
          · obtain rfl := Option.some.inj ho
            exact hI.new (by kernel_rfl) (by kernel_rfl) hls hun (newsR_spec (l := [7]) (by kernel_rfl) ⟨⟨_, _, rfl⟩, trivial⟩) rfl rfl rfl 23 zeroK (run_allocQ rfl zeroK_run wn) rfl hK'
          · obtain rfl := Option.some.inj ho
            obtain ⟨vp, hvp, hsp⟩ := hI.have 5 _ 21 (.val (.agg (numsA .u8 (keyOf (ladV (clampL keyJ1) (ofKey (keyOf (ladV (clampL keyJ0) (ofKey keyG0))))))))) rfl rfl rfl (hdep ⟨5, .data⟩ (by simp) rfl)
            obtain rfl := hsp
            exact hI.store (by kernel_rfl) hls hdep rfl rfl rfl ⟨5, 7, 23, fun z => z = numsA .u8 (keyOf (ladV (clampL keyJ1) (ofKey (keyOf (ladV (clampL keyJ0) (ofKey keyG0))))))⟩ rfl ⟨7, .data⟩ (by simp) rfl rfl 32 rfl 23 (.tmp 21) rfl (numsA .u8 (keyOf (ladV (clampL keyJ1) (ofKey (keyOf (ladV (clampL keyJ0) (ofKey keyG0))))))) (eval_of hvp) sizeKey (by rw [numsA_size]; exact keyOf_length _) (numsA_one _ _) rfl hK'
          · obtain rfl := Option.some.inj ho
            obtain ⟨vp, hvp, hsp⟩ := hI.have 6 _ 22 (.val (.int .i64 (agE (ladV (clampL keyJ1) (ofKey (keyOf (ladV (clampL keyJ0) (ofKey keyG0)))))))) rfl rfl rfl (hdep ⟨6, .data⟩ (by simp) rfl)
            obtain rfl := hsp
            exact hI.pure (by kernel_rfl) (by kernel_rfl) hls hun rfl rfl rfl (.int .i64 (agE (ladV (clampL keyJ1) (ofKey (keyOf (ladV (clampL keyJ0) (ofKey keyG0))))))) (run_moveQ (.inr rfl) (eval_of hvp) wn) (.val (.int .i64 (agE (ladV (clampL keyJ1) (ofKey (keyOf (ladV (clampL keyJ0) (ofKey keyG0)))))))) rfl rfl rfl hK'
          · exact hi.elim
        · intro fuel an w4 hf hI
          obtain ⟨vr3_0, hvr3_0, hsr3_0⟩ := hI.have 0 _ 17 (.val (.agg (numsA .u8 keyJ1))) rfl rfl rfl rfl
          obtain rfl := hsr3_0
          obtain ⟨vr3_1, hvr3_1, hsr3_1⟩ := hI.have 1 _ 18 (.val (.agg (numsA .u8 keyJ0))) rfl rfl rfl rfl
          obtain rfl := hsr3_1
          obtain ⟨vr3_2, hvr3_2, hsr3_2⟩ := hI.have 2 _ 19 (.val (.agg (numsA .u8 (keyOf (ladV (clampL keyJ0) (ofKey keyG0)))))) rfl rfl rfl rfl
          obtain rfl := hsr3_2
          obtain ⟨vr3_3, hvr3_3, hsr3_3⟩ := hI.have 3 _ 20 (.val (.tuple #[.agg (numsA .u8 (keyOf (ladV (clampL keyJ1) (ofKey (keyOf (ladV (clampL keyJ0) (ofKey keyG0))))))), .int .i64 (agE (ladV (clampL keyJ1) (ofKey (keyOf (ladV (clampL keyJ0) (ofKey keyG0))))))])) rfl rfl rfl rfl
          obtain rfl := hsr3_3
          obtain ⟨vr3_4, hvr3_4, hsr3_4⟩ := hI.have 4 _ 16 (.val (.tuple #[.agg (numsA .u8 (keyOf (ladV (clampL keyJ1) (ofKey (keyOf (ladV (clampL keyJ0) (ofKey keyG0))))))), .int .i64 (agE (ladV (clampL keyJ1) (ofKey (keyOf (ladV (clampL keyJ0) (ofKey keyG0))))))])) rfl rfl rfl rfl
          obtain rfl := hsr3_4
          obtain ⟨vr3_5, hvr3_5, hsr3_5⟩ := hI.have 5 _ 21 (.val (.agg (numsA .u8 (keyOf (ladV (clampL keyJ1) (ofKey (keyOf (ladV (clampL keyJ0) (ofKey keyG0))))))))) rfl rfl rfl rfl
          obtain rfl := hsr3_5
          obtain ⟨vr3_6, hvr3_6, hsr3_6⟩ := hI.have 6 _ 22 (.val (.int .i64 (agE (ladV (clampL keyJ1) (ofKey (keyOf (ladV (clampL keyJ0) (ofKey keyG0)))))))) rfl rfl rfl rfl
          obtain rfl := hsr3_6
          obtain ⟨vr3_7, hvr3_7, br3_7, zr3_7, rfl, hnr3_7, hbr3_7, hzr3_7⟩ := hI.have 7 _ 5 (.new 23 32) rfl rfl rfl rfl
          obtain ⟨vr3_9, hvr3_9, hsr3_9⟩ := hI.have 9 _ 6 (.val (.int .i64 (agE (ladV (clampL keyJ1) (ofKey (keyOf (ladV (clampL keyJ0) (ofKey keyG0)))))))) rfl rfl rfl rfl
          obtain rfl := hsr3_9
          obtain ⟨-, cr3_8, yr3_8, hpr3_8, hBr3_8, hyr3_8⟩ := hI.mem 8 ⟨5, 7, 23, fun z => z = numsA .u8 (keyOf (ladV (clampL keyJ1) (ofKey (keyOf (ladV (clampL keyJ0) (ofKey keyG0))))))⟩ rfl rfl
          obtain rfl := ptr_inj (hvr3_7.symm.trans hpr3_8)
          have hyr3_8 : yr3_8 = numsA .u8 (keyOf (ladV (clampL keyJ1) (ofKey (keyOf (ladV (clampL keyJ0) (ofKey keyG0)))))) := hyr3_8
          subst hyr3_8
          have hupd := hI.sl.upd
          have ha := hI.sl.act [(17, .agg (numsA .u8 keyJ1)), (18, .agg (numsA .u8 keyJ0)), (19, .agg (numsA .u8 (keyOf (ladV (clampL keyJ0) (ofKey keyG0))))), (20, .tuple #[.agg (numsA .u8 (keyOf (ladV (clampL keyJ1) (ofKey (keyOf (ladV (clampL keyJ0) (ofKey keyG0))))))), .int .i64 (agE (ladV (clampL keyJ1) (ofKey (keyOf (ladV (clampL keyJ0) (ofKey keyG0))))))]), (16, .tuple #[.agg (numsA .u8 (keyOf (ladV (clampL keyJ1) (ofKey (keyOf (ladV (clampL keyJ0) (ofKey keyG0))))))), .int .i64 (agE (ladV (clampL keyJ1) (ofKey (keyOf (ladV (clampL keyJ0) (ofKey keyG0))))))]), (21, .agg (numsA .u8 (keyOf (ladV (clampL keyJ1) (ofKey (keyOf (ladV (clampL keyJ0) (ofKey keyG0)))))))), (22, .int .i64 (agE (ladV (clampL keyJ1) (ofKey (keyOf (ladV (clampL keyJ0) (ofKey keyG0))))))), (5, ptrTo cr3_8), (6, .int .i64 (agE (ladV (clampL keyJ1) (ofKey (keyOf (ladV (clampL keyJ0) (ofKey keyG0)))))))] (by simp [hvr3_0, hvr3_1, hvr3_2, hvr3_3, hvr3_4, hvr3_5, hvr3_6, hvr3_7, hvr3_9]) (by kernel_rfl)
          clear hI
          subst ha
          simp only [List.foldl_cons, List.foldl_nil, List.setIfInBounds_toArray, List.set_cons_zero, List.set_cons_succ]
          have hner3_7_Bxr1y2_2 := Lib.hid (show cr3_8 ≠ br1_2 from Nat.ne_of_gt (Nat.lt_of_lt_of_le Bxr1y2_2.out.lt hnr3_7))
          have hner3_7_Bxr1y3_2 := Lib.hid (show cr3_8 ≠ br1_3 from Nat.ne_of_gt (Nat.lt_of_lt_of_le Bxr1y3_2.out.lt hnr3_7))
          have hner3_7_Bxr2y7 := Lib.hid (show cr3_8 ≠ cr2_8 from Nat.ne_of_gt (Nat.lt_of_lt_of_le Bxr2y7.out.lt hnr3_7))
          have hger3_7 := Lib.hid (Nat.le_trans HU2.out.size hnr3_7)
          have Bxr1y2_3 := Lib.hid (hupd.blk (show Blk w3.drew br1_2 23 (numsA .u8 keyJ0) from Bxr1y2_2.out) (fun h => h))
          have Bxr1y3_3 := Lib.hid (hupd.blk (show Blk w3.drew br1_3 23 (numsA .u8 keyJ1) from Bxr1y3_2.out) (fun h => h))
          have Bxr2y7_3 := Lib.hid (hupd.blk (show Blk w3.drew cr2_8 23 (numsA .u8 (keyOf (ladV (clampL keyJ0) (ofKey (keyOf (ladV (clampL keyJ1) (ofKey keyG0))))))) from Bxr2y7.out) (fun h => h))
          have Bxr3y7 := Lib.hid hBr3_8
          have HU3 := Lib.hid (HU2.out.drew.trans hupd)
          clear hupd
          refine wpAny_done (by kernel_rfl) ?_ _
          refine hK3 _ _ ?_
          clear hK3
          refine wp_seq_k fun K4 hK4 => ?_
          refine wp_region_qS 17 #[true, true, true, true, true, true, true, true, true, true, true, true, true, true, true, true, true] [] ([.val (.int .i64 (agE (ladV (clampL keyJ0) (ofKey (keyOf (ladV (clampL keyJ1) (ofKey keyG0))))))), .val (.bool true), .val (.bool true), .val (.int .i64 (agE (ladV (clampL keyJ1) (ofKey (keyOf (ladV (clampL keyJ0) (ofKey keyG0))))))), .val (.bool true), .val (.bool true), .val (.bool true), .val (.agg (numsA .u8 (keyOf (ladV (clampL keyJ0) (ofKey (keyOf (ladV (clampL keyJ1) (ofKey keyG0)))))))), .val (.agg (numsA .u8 (keyOf (ladV (clampL keyJ1) (ofKey (keyOf (ladV (clampL keyJ0) (ofKey keyG0)))))))), .val (.bool true), .val (.bool true), .val (.bool true), .val (.agg (numsA .u8 (keyOf (ladV (clampL keyJ0) (ofKey (keyOf (ladV (clampL keyJ1) (ofKey keyG0)))))))), .val (.agg (numsA .u8 zeroKL)), .val (.bool true), .val (.bool true), .val (.bool true)] : List SQ) (by kernel_rfl) (by kernel_rfl) (by kernel_rfl) ?_ ?_
          · intro i o listed an wn ho hls hst hun hdep hI hpre K' hK'
            have hi : i = 0 ∨ i = 1 ∨ i = 2 ∨ i = 3 ∨ i = 4 ∨ i = 5 ∨ i = 6 ∨ i = 7 ∨ i = 8 ∨ i = 9 ∨ i = 10 ∨ i = 11 ∨ i = 12 ∨ i = 13 ∨ i = 14 ∨ i = 15 ∨ i = 16 ∨ False := slot_cases (l := [0, 1, 2, 3, 4, 5, 6, 7, 8, 9, 10, 11, 12, 13, 14, 15, 16]) rfl ho hst
            rcases hi with rfl | rfl | rfl | rfl | rfl | rfl | rfl | rfl | rfl | rfl | rfl | rfl | rfl | rfl | rfl | rfl | rfl | hi
            · obtain rfl := Option.some.inj ho
              have hvp : an.eval (.tmp 4) = .int .i64 (agE (ladV (clampL keyJ0) (ofKey (keyOf (ladV (clampL keyJ1) (ofKey keyG0)))))) := hI.oldQ (by kernel_rfl) rfl
              exact hI.pureQ (by kernel_rfl) hls rfl rfl rfl (.int .i64 (agE (ladV (clampL keyJ0) (ofKey (keyOf (ladV (clampL keyJ1) (ofKey keyG0))))))) (run_moveQ (.inl rfl) hvp wn) (.val (.int .i64 (agE (ladV (clampL keyJ0) (ofKey (keyOf (ladV (clampL keyJ1) (ofKey keyG0)))))))) rfl rfl rfl hK'
            · obtain rfl := Option.some.inj ho
              obtain ⟨vp, hvp, hsp⟩ := hI.haveQ 0 _ 23 (.val (.int .i64 (agE (ladV (clampL keyJ0) (ofKey (keyOf (ladV (clampL keyJ1) (ofKey keyG0)))))))) rfl rfl rfl (hdep ⟨0, .data⟩ (by simp) rfl)
              obtain rfl := hsp
              exact hI.pureQ (by kernel_rfl) hls rfl rfl rfl (.bool true) (run_eql rfl (eval_of hvp) rfl f1 wn) (.val (.bool true)) rfl rfl rfl hK'
            · obtain rfl := Option.some.inj ho
              obtain ⟨vp, hvp, hsp⟩ := hI.haveQ 1 _ 24 (.val (.bool true)) rfl rfl rfl (hdep ⟨1, .data⟩ (by simp) rfl)
              obtain rfl := hsp
              exact hI.pureQ (by kernel_rfl) hls rfl rfl rfl (.bool true) (run_moveQ (.inl rfl) (eval_of hvp) wn) (.val (.bool true)) rfl rfl rfl hK'
            · obtain rfl := Option.some.inj ho
              obtain ⟨vg, hvg, hsg⟩ := hI.haveQ 2 _ 25 (.val (.bool true)) rfl rfl rfl (hdep ⟨2, .guard⟩ (by simp) rfl)
              obtain rfl := hsg
              have hvp : an.eval (.tmp 6) = .int .i64 (agE (ladV (clampL keyJ1) (ofKey (keyOf (ladV (clampL keyJ0) (ofKey keyG0)))))) := hI.oldQ (by kernel_rfl) rfl
              exact hI.pureQ (by kernel_rfl) hls rfl (wanted_of rfl rfl rfl hvg) rfl (.int .i64 (agE (ladV (clampL keyJ1) (ofKey (keyOf (ladV (clampL keyJ0) (ofKey keyG0))))))) (run_moveQ (.inl rfl) hvp wn) (.val (.int .i64 (agE (ladV (clampL keyJ1) (ofKey (keyOf (ladV (clampL keyJ0) (ofKey keyG0)))))))) rfl rfl rfl hK'
            · obtain rfl := Option.some.inj ho
              obtain ⟨vg, hvg, hsg⟩ := hI.haveQ 2 _ 25 (.val (.bool true)) rfl rfl rfl (hdep ⟨2, .guard⟩ (by simp) rfl)
              obtain rfl := hsg
              obtain ⟨vp, hvp, hsp⟩ := hI.haveQ 3 _ 26 (.val (.int .i64 (agE (ladV (clampL keyJ1) (ofKey (keyOf (ladV (clampL keyJ0) (ofKey keyG0)))))))) rfl rfl rfl (hdep ⟨3, .data⟩ (by simp) rfl)
              obtain rfl := hsp
              exact hI.pureQ (by kernel_rfl) hls rfl (wanted_of rfl rfl rfl hvg) rfl (.bool true) (run_eql rfl (eval_of hvp) rfl f2 wn) (.val (.bool true)) rfl rfl rfl hK'
            · obtain rfl := Option.some.inj ho
              obtain ⟨vp, hvp, hsp⟩ := hI.haveQ 2 _ 25 (.val (.bool true)) rfl rfl rfl (hdep ⟨2, .data⟩ (by simp) rfl)
              obtain rfl := hsp
              obtain ⟨vq, hvq, hsq⟩ := hI.haveQ 4 _ 27 (.val (.bool true)) rfl rfl rfl (hdep ⟨4, .data⟩ (by simp) rfl)
              obtain rfl := hsq
              exact hI.pureQ (by kernel_rfl) hls rfl rfl rfl (.bool true) (run_pickT rfl (eval_of hvp) (eval_of hvq) wn) (.val (.bool true)) rfl rfl rfl hK'
            · obtain rfl := Option.some.inj ho
              obtain ⟨vp, hvp, hsp⟩ := hI.haveQ 5 _ 28 (.val (.bool true)) rfl rfl rfl (hdep ⟨5, .data⟩ (by simp) rfl)
              obtain rfl := hsp
              exact hI.pureQ (by kernel_rfl) hls rfl rfl rfl (.bool true) (run_moveQ (.inl rfl) (eval_of hvp) wn) (.val (.bool true)) rfl rfl rfl hK'
            · obtain rfl := Option.some.inj ho
              obtain ⟨vg, hvg, hsg⟩ := hI.haveQ 6 _ 29 (.val (.bool true)) rfl rfl rfl (hdep ⟨6, .guard⟩ (by simp) rfl)
              obtain rfl := hsg
              have hvp : an.eval (.tmp 3) = ptrTo cr2_8 := hI.oldQ (by kernel_rfl) rfl
              exact hI.pureQ (by kernel_rfl) hls rfl (wanted_of rfl rfl rfl hvg) rfl _ (run_loadQ rfl hvp wn (hI.upd.blk (show Blk w4 cr2_8 23 (numsA .u8 (keyOf (ladV (clampL keyJ0) (ofKey (keyOf (ladV (clampL keyJ1) (ofKey keyG0))))))) from Bxr2y7_3.out) (fun h => h)) Tryd.underlying23 rfl sizeKey (by rw [numsA_size, keyOf_length _]; omega)) (.val (.agg (numsA .u8 (keyOf (ladV (clampL keyJ0) (ofKey (keyOf (ladV (clampL keyJ1) (ofKey keyG0))))))))) rfl (congrArg Value.agg (extract_all _ 32 (by rw [numsA_size]; exact keyOf_length _))) rfl hK'
            · obtain rfl := Option.some.inj ho
              obtain ⟨vg, hvg, hsg⟩ := hI.haveQ 6 _ 29 (.val (.bool true)) rfl rfl rfl (hdep ⟨6, .guard⟩ (by simp) rfl)
              obtain rfl := hsg
              have hvp : an.eval (.tmp 5) = ptrTo cr3_8 := hI.oldQ (by kernel_rfl) rfl
              exact hI.pureQ (by kernel_rfl) hls rfl (wanted_of rfl rfl rfl hvg) rfl _ (run_loadQ rfl hvp wn (hI.upd.blk (show Blk w4 cr3_8 23 (numsA .u8 (keyOf (ladV (clampL keyJ1) (ofKey (keyOf (ladV (clampL keyJ0) (ofKey keyG0))))))) from Bxr3y7.out) (fun h => h)) Tryd.underlying23 rfl sizeKey (by rw [numsA_size, keyOf_length _]; omega)) (.val (.agg (numsA .u8 (keyOf (ladV (clampL keyJ1) (ofKey (keyOf (ladV (clampL keyJ0) (ofKey keyG0))))))))) rfl (congrArg Value.agg (extract_all _ 32 (by rw [numsA_size]; exact keyOf_length _))) rfl hK'
            · obtain rfl := Option.some.inj ho
              obtain ⟨vg, hvg, hsg⟩ := hI.haveQ 6 _ 29 (.val (.bool true)) rfl rfl rfl (hdep ⟨6, .guard⟩ (by simp) rfl)
              obtain rfl := hsg
              obtain ⟨vp, hvp, hsp⟩ := hI.haveQ 7 _ 30 (.val (.agg (numsA .u8 (keyOf (ladV (clampL keyJ0) (ofKey (keyOf (ladV (clampL keyJ1) (ofKey keyG0))))))))) rfl rfl rfl (hdep ⟨7, .data⟩ (by simp) rfl)
              obtain rfl := hsp
              obtain ⟨vq, hvq, hsq⟩ := hI.haveQ 8 _ 31 (.val (.agg (numsA .u8 (keyOf (ladV (clampL keyJ1) (ofKey (keyOf (ladV (clampL keyJ0) (ofKey keyG0))))))))) rfl rfl rfl (hdep ⟨8, .data⟩ (by simp) rfl)
              obtain rfl := hsq
              exact hI.pureQ (by kernel_rfl) hls rfl (wanted_of rfl rfl rfl hvg) rfl (.bool true) (run_eqlK (b := true) rfl (eval_of hvp) (eval_of hvq) (keyOf_length _) (keyOf_length _) f3 wn) (.val (.bool true)) rfl rfl rfl hK'
            · obtain rfl := Option.some.inj ho
              obtain ⟨vp, hvp, hsp⟩ := hI.haveQ 6 _ 29 (.val (.bool true)) rfl rfl rfl (hdep ⟨6, .data⟩ (by simp) rfl)
              obtain rfl := hsp
              obtain ⟨vq, hvq, hsq⟩ := hI.haveQ 9 _ 32 (.val (.bool true)) rfl rfl rfl (hdep ⟨9, .data⟩ (by simp) rfl)
              obtain rfl := hsq
              exact hI.pureQ (by kernel_rfl) hls rfl rfl rfl (.bool true) (run_pickT rfl (eval_of hvp) (eval_of hvq) wn) (.val (.bool true)) rfl rfl rfl hK'
            · obtain rfl := Option.some.inj ho
              obtain ⟨vp, hvp, hsp⟩ := hI.haveQ 10 _ 33 (.val (.bool true)) rfl rfl rfl (hdep ⟨10, .data⟩ (by simp) rfl)
              obtain rfl := hsp
              exact hI.pureQ (by kernel_rfl) hls rfl rfl rfl (.bool true) (run_moveQ (.inl rfl) (eval_of hvp) wn) (.val (.bool true)) rfl rfl rfl hK'
            · obtain rfl := Option.some.inj ho
              obtain ⟨vg, hvg, hsg⟩ := hI.haveQ 11 _ 34 (.val (.bool true)) rfl rfl rfl (hdep ⟨11, .guard⟩ (by simp) rfl)
              obtain rfl := hsg
              have hvp : an.eval (.tmp 3) = ptrTo cr2_8 := hI.oldQ (by kernel_rfl) rfl
              exact hI.pureQ (by kernel_rfl) hls rfl (wanted_of rfl rfl rfl hvg) rfl _ (run_loadQ rfl hvp wn (hI.upd.blk (show Blk w4 cr2_8 23 (numsA .u8 (keyOf (ladV (clampL keyJ0) (ofKey (keyOf (ladV (clampL keyJ1) (ofKey keyG0))))))) from Bxr2y7_3.out) (fun h => h)) Tryd.underlying23 rfl sizeKey (by rw [numsA_size, keyOf_length _]; omega)) (.val (.agg (numsA .u8 (keyOf (ladV (clampL keyJ0) (ofKey (keyOf (ladV (clampL keyJ1) (ofKey keyG0))))))))) rfl (congrArg Value.agg (extract_all _ 32 (by rw [numsA_size]; exact keyOf_length _))) rfl hK'
            · obtain rfl := Option.some.inj ho
              obtain ⟨vg, hvg, hsg⟩ := hI.haveQ 11 _ 34 (.val (.bool true)) rfl rfl rfl (hdep ⟨11, .guard⟩ (by simp) rfl)
              obtain rfl := hsg
              exact hI.pureQ (by kernel_rfl) hls rfl (wanted_of rfl rfl rfl hvg) rfl (.agg (numsA .u8 zeroKL)) (zeroKL_bld rfl wn) (.val (.agg (numsA .u8 zeroKL))) rfl rfl rfl hK'
            · obtain rfl := Option.some.inj ho
              obtain ⟨vg, hvg, hsg⟩ := hI.haveQ 11 _ 34 (.val (.bool true)) rfl rfl rfl (hdep ⟨11, .guard⟩ (by simp) rfl)
              obtain rfl := hsg
              obtain ⟨vp, hvp, hsp⟩ := hI.haveQ 12 _ 35 (.val (.agg (numsA .u8 (keyOf (ladV (clampL keyJ0) (ofKey (keyOf (ladV (clampL keyJ1) (ofKey keyG0))))))))) rfl rfl rfl (hdep ⟨12, .data⟩ (by simp) rfl)
              obtain rfl := hsp
              obtain ⟨vq, hvq, hsq⟩ := hI.haveQ 13 _ 36 (.val (.agg (numsA .u8 zeroKL))) rfl rfl rfl (hdep ⟨13, .data⟩ (by simp) rfl)
              obtain rfl := hsq
              exact hI.pureQ (by kernel_rfl) hls rfl (wanted_of rfl rfl rfl hvg) rfl (.bool true) (run_neqK (b := true) rfl (eval_of hvp) (eval_of hvq) (keyOf_length _) zeroKL_length f4 wn) (.val (.bool true)) rfl rfl rfl hK'
            · obtain rfl := Option.some.inj ho
              obtain ⟨vp, hvp, hsp⟩ := hI.haveQ 11 _ 34 (.val (.bool true)) rfl rfl rfl (hdep ⟨11, .data⟩ (by simp) rfl)
              obtain rfl := hsp
              obtain ⟨vq, hvq, hsq⟩ := hI.haveQ 14 _ 37 (.val (.bool true)) rfl rfl rfl (hdep ⟨14, .data⟩ (by simp) rfl)
              obtain rfl := hsq
              exact hI.pureQ (by kernel_rfl) hls rfl rfl rfl (.bool true) (run_pickT rfl (eval_of hvp) (eval_of hvq) wn) (.val (.bool true)) rfl rfl rfl hK'
            · obtain rfl := Option.some.inj ho
              obtain ⟨vp, hvp, hsp⟩ := hI.haveQ 15 _ 38 (.val (.bool true)) rfl rfl rfl (hdep ⟨15, .data⟩ (by simp) rfl)
              obtain rfl := hsp
              exact hI.pureQ (by kernel_rfl) hls rfl rfl rfl (.bool true) (run_moveQ (.inr rfl) (eval_of hvp) wn) (.val (.bool true)) rfl rfl rfl hK'
            · exact hi.elim
          · intro an w5 hI
            obtain ⟨vr4_0, hvr4_0, hsr4_0⟩ := hI.haveQ 0 _ 23 (.val (.int .i64 (agE (ladV (clampL keyJ0) (ofKey (keyOf (ladV (clampL keyJ1) (ofKey keyG0)))))))) rfl rfl rfl rfl
            obtain rfl := hsr4_0
            obtain ⟨vr4_1, hvr4_1, hsr4_1⟩ := hI.haveQ 1 _ 24 (.val (.bool true)) rfl rfl rfl rfl
            obtain rfl := hsr4_1
            obtain ⟨vr4_2, hvr4_2, hsr4_2⟩ := hI.haveQ 2 _ 25 (.val (.bool true)) rfl rfl rfl rfl
            obtain rfl := hsr4_2
            obtain ⟨vr4_3, hvr4_3, hsr4_3⟩ := hI.haveQ 3 _ 26 (.val (.int .i64 (agE (ladV (clampL keyJ1) (ofKey (keyOf (ladV (clampL keyJ0) (ofKey keyG0)))))))) rfl rfl rfl rfl
            obtain rfl := hsr4_3
            obtain ⟨vr4_4, hvr4_4, hsr4_4⟩ := hI.haveQ 4 _ 27 (.val (.bool true)) rfl rfl rfl rfl
            obtain rfl := hsr4_4
            obtain ⟨vr4_5, hvr4_5, hsr4_5⟩ := hI.haveQ 5 _ 28 (.val (.bool true)) rfl rfl rfl rfl
            obtain rfl := hsr4_5
            obtain ⟨vr4_6, hvr4_6, hsr4_6⟩ := hI.haveQ 6 _ 29 (.val (.bool true)) rfl rfl rfl rfl
            obtain rfl := hsr4_6
            obtain ⟨vr4_7, hvr4_7, hsr4_7⟩ := hI.haveQ 7 _ 30 (.val (.agg (numsA .u8 (keyOf (ladV (clampL keyJ0) (ofKey (keyOf (ladV (clampL keyJ1) (ofKey keyG0))))))))) rfl rfl rfl rfl
            obtain rfl := hsr4_7
            obtain ⟨vr4_8, hvr4_8, hsr4_8⟩ := hI.haveQ 8 _ 31 (.val (.agg (numsA .u8 (keyOf (ladV (clampL keyJ1) (ofKey (keyOf (ladV (clampL keyJ0) (ofKey keyG0))))))))) rfl rfl rfl rfl
            obtain rfl := hsr4_8
            obtain ⟨vr4_9, hvr4_9, hsr4_9⟩ := hI.haveQ 9 _ 32 (.val (.bool true)) rfl rfl rfl rfl
            obtain rfl := hsr4_9
            obtain ⟨vr4_10, hvr4_10, hsr4_10⟩ := hI.haveQ 10 _ 33 (.val (.bool true)) rfl rfl rfl rfl
            obtain rfl := hsr4_10
            obtain ⟨vr4_11, hvr4_11, hsr4_11⟩ := hI.haveQ 11 _ 34 (.val (.bool true)) rfl rfl rfl rfl
            obtain rfl := hsr4_11
            obtain ⟨vr4_12, hvr4_12, hsr4_12⟩ := hI.haveQ 12 _ 35 (.val (.agg (numsA .u8 (keyOf (ladV (clampL keyJ0) (ofKey (keyOf (ladV (clampL keyJ1) (ofKey keyG0))))))))) rfl rfl rfl rfl
            obtain rfl := hsr4_12
            obtain ⟨vr4_13, hvr4_13, hsr4_13⟩ := hI.haveQ 13 _ 36 (.val (.agg (numsA .u8 zeroKL))) rfl rfl rfl rfl
            obtain rfl := hsr4_13
            obtain ⟨vr4_14, hvr4_14, hsr4_14⟩ := hI.haveQ 14 _ 37 (.val (.bool true)) rfl rfl rfl rfl
            obtain rfl := hsr4_14
            obtain ⟨vr4_15, hvr4_15, hsr4_15⟩ := hI.haveQ 15 _ 38 (.val (.bool true)) rfl rfl rfl rfl
            obtain rfl := hsr4_15
            obtain ⟨vr4_16, hvr4_16, hsr4_16⟩ := hI.haveQ 16 _ 0 (.val (.bool true)) rfl rfl rfl rfl
            obtain rfl := hsr4_16
            have hupd := hI.upd
            have ha := hI.act [(23, .int .i64 (agE (ladV (clampL keyJ0) (ofKey (keyOf (ladV (clampL keyJ1) (ofKey keyG0))))))), (24, .bool true), (25, .bool true), (26, .int .i64 (agE (ladV (clampL keyJ1) (ofKey (keyOf (ladV (clampL keyJ0) (ofKey keyG0))))))), (27, .bool true), (28, .bool true), (29, .bool true), (30, .agg (numsA .u8 (keyOf (ladV (clampL keyJ0) (ofKey (keyOf (ladV (clampL keyJ1) (ofKey keyG0)))))))), (31, .agg (numsA .u8 (keyOf (ladV (clampL keyJ1) (ofKey (keyOf (ladV (clampL keyJ0) (ofKey keyG0)))))))), (32, .bool true), (33, .bool true), (34, .bool true), (35, .agg (numsA .u8 (keyOf (ladV (clampL keyJ0) (ofKey (keyOf (ladV (clampL keyJ1) (ofKey keyG0)))))))), (36, .agg (numsA .u8 zeroKL)), (37, .bool true), (38, .bool true), (0, .bool true)] (by simp [hvr4_0, hvr4_1, hvr4_2, hvr4_3, hvr4_4, hvr4_5, hvr4_6, hvr4_7, hvr4_8, hvr4_9, hvr4_10, hvr4_11, hvr4_12, hvr4_13, hvr4_14, hvr4_15, hvr4_16]) (by kernel_rfl)
            clear hI hvr4_0 hvr4_1 hvr4_2 hvr4_3 hvr4_4 hvr4_5 hvr4_6 hvr4_7 hvr4_8 hvr4_9 hvr4_10 hvr4_11 hvr4_12 hvr4_13 hvr4_14 hvr4_15 hvr4_16
            subst ha
            simp only [List.foldl_cons, List.foldl_nil, List.setIfInBounds_toArray, List.set_cons_zero, List.set_cons_succ]
            have Bxr1y2_4 := Lib.hid (hupd.blk (show Blk w4 br1_2 23 (numsA .u8 keyJ0) from Bxr1y2_3.out) (fun h => h))
            have Bxr1y3_4 := Lib.hid (hupd.blk (show Blk w4 br1_3 23 (numsA .u8 keyJ1) from Bxr1y3_3.out) (fun h => h))
            have Bxr2y7_4 := Lib.hid (hupd.blk (show Blk w4 cr2_8 23 (numsA .u8 (keyOf (ladV (clampL keyJ0) (ofKey (keyOf (ladV (clampL keyJ1) (ofKey keyG0))))))) from Bxr2y7_3.out) (fun h => h))
            have Bxr3y7_4 := Lib.hid (hupd.blk (show Blk w4 cr3_8 23 (numsA .u8 (keyOf (ladV (clampL keyJ1) (ofKey (keyOf (ladV (clampL keyJ0) (ofKey keyG0))))))) from Bxr3y7.out) (fun h => h))
            have HU4 := Lib.hid (HU3.out.trans hupd)
            clear hupd
            refine wpOps_nil ?_
            refine hK4 _ _ ?_
            clear hK4
            refine wp_ret ?_
            try dsimp only [Exit.then]
            try dsimp only [Exit.inBlock]
            exact bodyPost_ret (v := .bool true) (results_tmpQ (fn := Tryd.f16) (t := 0) rfl _ _ (.bool true) rfl) rfl ⟨rfl, HU4.out⟩
end Go.Proofs.YtdpafemcpbhlfaaDoor
