/-
  Walks of ladder: Public, Agree.
-/
import Derived.Test.YtdpafemcpbhlfaaDoorMul2
namespace Go.Proofs.YtdpafemcpbhlfaaDoor
set_option maxRecDepth 100000
open Go.RowKit

def keyG0 : List Int := [9, 0, 0, 0, 0, 0, 0, 0, 0, 0, 0, 0, 0, 0, 0, 0, 0, 0, 0, 0, 0, 0, 0, 0, 0, 0, 0, 0, 0, 0, 0, 0]
theorem keyG0_length : keyG0.length = 32 := rfl
theorem keyG0_digs : Digs 256 keyG0 := digs_of_all (by decide)
theorem keyG0_run {o : Oper} {a : Act} (ho : o.op = .build 23 #[(0, .const (.int .u8 9))]) (w : World) : (execOp a.eval o).run Tryd.prog w = .ok (.value (.agg (numsA .u8 keyG0))) w := by
  have hb : (Instr.build 23 #[(0, .int .u8 9)]).run Tryd.prog w = .ok (.agg (numsA .u8 keyG0)) w := by kernel_rfl
  have hm : (#[(0, .const (.int .u8 9))] : Array (Nat × Operand)).map (fun (i, x) => (i, a.eval x)) = #[(0, .int .u8 9)] := by simp [Act.eval]
  unfold execOp
  simp only [ho]
  rw [hm, Sem.run_bind, hb]
  rfl
set_option maxHeartbeats 4000000 in
theorem publicL {l : List Int} (w : World) (hT : Tw w) (hl : l.length = 32) (hd : Digs 256 l) :
    Calls Tryd.prog 21 #[.agg (numsA .u8 l)] w fun e w' => e = .returned (.agg (numsA .u8 (keyOf (ladV (clampL l) (ofKey keyG0))))) ∧ Upd (fun _ => False) w w' := by
  have HT := Lib.hid hT
  clear hT
  have HU := Lib.hid (Upd.refl (fun _ => False) w)
  go_enter Tryd.func21, Tryd.ntmps21
  refine wp_seq_k fun K0 hK0 => ?_
  refine wp_region_qS 2 #[true, true] [] ([.blk ptrTo 23 (fun z => z = numsA .u8 l), .blk ptrTo 23 (fun z => z = numsA .u8 zeroKL)] : List SQ) (by kernel_rfl) (by kernel_rfl) (by kernel_rfl) ?_ ?_
  · intro i o listed an wn ho hls hst hun hdep hI hpre K' hK'
    have hi : i = 0 ∨ i = 1 ∨ False := slot_cases (l := [0, 1]) rfl ho hst
    rcases hi with rfl | rfl | hi
    · obtain rfl := Option.some.inj ho
      have hvp : an.eval (.tmp 0) = .agg (numsA .u8 l) := hI.oldQ (by kernel_rfl) rfl
      exact hI.newQ (by kernel_rfl) hls (Nat.le_refl _) (newsQ_spec (l := [0, 1]) (by kernel_rfl) ⟨⟨_, _, rfl⟩, ⟨_, _, rfl⟩, trivial⟩) rfl rfl rfl 23 _ (fun z => z = numsA .u8 l) (run_boxQ rfl hvp wn) rfl rfl hK'
    · obtain rfl := Option.some.inj ho
      exact hI.newQ (by kernel_rfl) hls (Nat.le_refl _) (newsQ_spec (l := [0, 1]) (by kernel_rfl) ⟨⟨_, _, rfl⟩, ⟨_, _, rfl⟩, trivial⟩) rfl rfl rfl 23 _ (fun z => z = numsA .u8 zeroKL) (run_allocQ rfl zeroK_run wn) rfl rfl hK'
    · exact hi.elim
  · intro an w1 hI
    obtain ⟨vr0_0, hvr0_0, br0_0, zr0_0, rfl, hnr0_0, hbr0_0, hzr0_0⟩ := hI.haveQ 0 _ 1 (.blk ptrTo 23 (fun z => z = numsA .u8 l)) rfl rfl rfl rfl
    rw [hzr0_0] at hbr0_0
    clear hzr0_0
    obtain ⟨vr0_1, hvr0_1, br0_1, zr0_1, rfl, hnr0_1, hbr0_1, hzr0_1⟩ := hI.haveQ 1 _ 2 (.blk ptrTo 23 (fun z => z = numsA .u8 zeroKL)) rfl rfl rfl rfl
    rw [hzr0_1] at hbr0_1
    clear hzr0_1
    have hupd := hI.upd
    have hner0_0_r0_1 := Lib.hid (show br0_0 ≠ br0_1 from fun e => hI.apart 0 1 _ _ 1 2 (by omega) rfl rfl rfl rfl rfl rfl rfl rfl (by rw [hvr0_0, hvr0_1, e]))
    have ha := hI.act [(1, ptrTo br0_0), (2, ptrTo br0_1)] (by simp [hvr0_0, hvr0_1]) (by kernel_rfl)
    clear hI hvr0_0 hvr0_1
    subst ha
    simp only [List.foldl_cons, List.foldl_nil, List.setIfInBounds_toArray, List.set_cons_zero, List.set_cons_succ]
    have hger0_0 := Lib.hid (Nat.le_trans HU.out.size hnr0_0)
    have hger0_1 := Lib.hid (Nat.le_trans HU.out.size hnr0_1)
    have Bxr0y0 := Lib.hid hbr0_0
    have Bxr0y1 := Lib.hid hbr0_1
    have HU0 := Lib.hid (HU.out.trans hupd)
    clear hupd
    refine wpOps_nil ?_
    refine hK0 _ _ ?_
    clear hK0
    refine wp_seq_k fun K1 hK1 => ?_
    refine wp_region_qS 3 #[true, true, true, false] [3] ([.val (.agg (numsA .u8 l)), .val (.agg (numsA .u8 keyG0)), .val (.agg (numsA .u8 (keyOf (ladV (clampL l) (ofKey keyG0))))), .val undef] : List SQ) (by kernel_rfl) (by kernel_rfl) (by kernel_rfl) ?_ ?_
    · intro i o listed an wn ho hls hst hun hdep hI hpre K' hK'
      have hi : i = 0 ∨ i = 1 ∨ i = 2 ∨ False := slot_cases (l := [0, 1, 2]) rfl ho hst
      rcases hi with rfl | rfl | rfl | hi
      · obtain rfl := Option.some.inj ho
        have hvp : an.eval (.tmp 1) = ptrTo br0_0 := hI.oldQ (by kernel_rfl) rfl
        exact hI.pureQ (by kernel_rfl) hls rfl rfl rfl _ (run_loadQ rfl hvp wn (hI.upd.blk (show Blk w1 br0_0 23 (numsA .u8 l) from Bxr0y0.out) (fun h => h)) Tryd.underlying23 rfl sizeKey (by rw [numsA_size, hl]; omega)) (.val (.agg (numsA .u8 l))) rfl (congrArg Value.agg (extract_all _ 32 (by rw [numsA_size]; exact hl))) rfl hK'
      · obtain rfl := Option.some.inj ho
        exact hI.pureQ (by kernel_rfl) hls rfl rfl rfl (.agg (numsA .u8 keyG0)) (keyG0_run rfl wn) (.val (.agg (numsA .u8 keyG0))) rfl rfl rfl hK'
      · obtain rfl := Option.some.inj ho
        obtain ⟨vp, hvp, hsp⟩ := hI.haveQ 0 _ 3 (.val (.agg (numsA .u8 l))) rfl rfl rfl (hdep ⟨0, .data⟩ (by simp) rfl)
        obtain rfl := hsp
        obtain ⟨vq, hvq, hsq⟩ := hI.haveQ 1 _ 4 (.val (.agg (numsA .u8 keyG0))) rfl rfl rfl (hdep ⟨1, .data⟩ (by simp) rfl)
        obtain rfl := hsq
        exact hI.callQ (by kernel_rfl) hls rfl rfl rfl 17 #[.tmp 3, .tmp 4] _ rfl #[.agg (numsA .u8 l), .agg (numsA .u8 keyG0)] (by simp [eval_of hvp, eval_of hvq]) (run_enter Tryd.func17 (by kernel_rfl) (by kernel_rfl)) (.val (.agg (numsA .u8 (keyOf (ladV (clampL l) (ofKey keyG0)))))) rfl rfl ((multiplyL _ (HT.out.upd (HU0.out.trans hI.upd)) hl hd keyG0_length keyG0_digs).mono fun _ _ h => ret_val h) hK'
      · exact hi.elim
    · intro an w2 hI
      obtain ⟨vr1_0, hvr1_0, hsr1_0⟩ := hI.haveQ 0 _ 3 (.val (.agg (numsA .u8 l))) rfl rfl rfl rfl
      obtain rfl := hsr1_0
      obtain ⟨vr1_1, hvr1_1, hsr1_1⟩ := hI.haveQ 1 _ 4 (.val (.agg (numsA .u8 keyG0))) rfl rfl rfl rfl
      obtain rfl := hsr1_1
      obtain ⟨vr1_2, hvr1_2, hsr1_2⟩ := hI.haveQ 2 _ 5 (.val (.agg (numsA .u8 (keyOf (ladV (clampL l) (ofKey keyG0)))))) rfl rfl rfl rfl
      obtain rfl := hsr1_2
      have hupd := hI.upd
      have ha := hI.act [(3, .agg (numsA .u8 l)), (4, .agg (numsA .u8 keyG0)), (5, .agg (numsA .u8 (keyOf (ladV (clampL l) (ofKey keyG0)))))] (by simp [hvr1_0, hvr1_1, hvr1_2]) (by kernel_rfl)
      clear hI hvr1_0 hvr1_1 hvr1_2
      subst ha
      simp only [List.foldl_cons, List.foldl_nil, List.setIfInBounds_toArray, List.set_cons_zero, List.set_cons_succ]
      have Bxr0y0_1 := Lib.hid (hupd.blk (show Blk w1 br0_0 23 (numsA .u8 l) from Bxr0y0.out) (fun h => h))
      have Bxr0y1_1 := Lib.hid (hupd.blk (show Blk w1 br0_1 23 (numsA .u8 zeroKL) from Bxr0y1.out) (fun h => h))
      have HU1 := Lib.hid (HU0.out.trans hupd)
      clear hupd
      refine wpOps_storeQ 3 rfl rfl rfl 23 (.tmp 2) (.tmp 5) rfl br0_1 0 32 rfl (numsA .u8 (keyOf (ladV (clampL l) (ofKey keyG0)))) rfl 23 (numsA .u8 zeroKL) Bxr0y1_1.out sizeKey (by rw [numsA_size]; exact keyOf_length _) (by rw [(show (numsA _ _).size = 32 by rw [numsA_size]; exact zeroKL_length)]; exact Nat.le_of_ble_eq_true rfl) (numsA_one _ _) ?_
      intro ws1_0 hs1_0 hus1_0
      rw [splice_all _ _ 32 (show (numsA _ _).size = 32 by rw [numsA_size]; exact zeroKL_length) (by rw [numsA_size]; exact keyOf_length _)] at hs1_0
      have Bxr0y0_s1_0 := Lib.hid (hus1_0.blk Bxr0y0_1.out (fun e => hner0_0_r0_1.out e))
      have Bxr0y1_s1_0 := Lib.hid hs1_0
      have HU1_0 := Lib.hid (HU1.out.step hus1_0 (fun i hi h => absurd hi (Nat.not_lt.2 (h.symm ▸ hger0_1.out))))
      clear hs1_0 hus1_0
      refine wpOps_nil ?_
      refine hK1 _ _ ?_
      clear hK1
      refine wp_ret ?_
      try dsimp only [Exit.then]
      try dsimp only [Exit.inBlock]
      exact bodyPost_ret (v := .agg (numsA .u8 (keyOf (ladV (clampL l) (ofKey keyG0))))) (results_cell_row (fn := Tryd.f21) (p := 2) (ty := 23) rfl _ _ br0_1 23 _ (0, 0) _ rfl Bxr0y1_s1_0.out Tryd.underlying23 rfl (by rw [numsA_size, keyOf_length _]; exact sizeKey)) rfl ⟨rfl, HU1_0.out⟩
def key9 : List Int := 9 :: List.replicate 31 0
theorem keyG0_eq : keyG0 = key9 := rfl
/-- The error that Agree tells. -/
def agE (v : Fp) : Int := if keyOf v = zeroKL then 50 else 0
set_option maxHeartbeats 4000000 in
theorem agreetrue {l m : List Int} (w : World) (hT : Tw w) (hl : l.length = 32) (hd : Digs 256 l) (hm : m.length = 32) (hn : Digs 256 m) (hk0 :  keyOf (ladV (clampL l) (ofKey m)) = zeroKL) :
    Calls Tryd.prog 19 #[.agg (numsA .u8 l), .agg (numsA .u8 m)] w fun e w' => e = .returned (.tuple #[.agg (numsA .u8 (keyOf (ladV (clampL l) (ofKey m)))), .int .i64 (agE (ladV (clampL l) (ofKey m)))]) ∧ Upd (fun _ => False) w w' := by
  have HT := Lib.hid hT
  clear hT
  have HU := Lib.hid (Upd.refl (fun _ => False) w)
  have hk : keyOf (ladV (clampL l) (ofKey m)) = zeroKL := hk0
  have hz : agE (ladV (clampL l) (ofKey m)) = 50 := if_pos hk
  have hf : decide (keyOf (ladV (clampL l) (ofKey m)) = zeroKL) = true := decide_eq_true hk
  go_enter Tryd.func19, Tryd.ntmps19
  refine wp_seq_k fun K0 hK0 => ?_
  refine wp_region_qS 4 #[true, true, true, true] [] ([.blk ptrTo 23 (fun z => z = numsA .u8 l), .blk ptrTo 23 (fun z => z = numsA .u8 m), .blk ptrTo 23 (fun z => z = numsA .u8 zeroKL), .val (.int .i64 0)] : List SQ) (by kernel_rfl) (by kernel_rfl) (by kernel_rfl) ?_ ?_
  · intro i o listed an wn ho hls hst hun hdep hI hpre K' hK'
    have hi : i = 0 ∨ i = 1 ∨ i = 2 ∨ i = 3 ∨ False := slot_cases (l := [0, 1, 2, 3]) rfl ho hst
    rcases hi with rfl | rfl | rfl | rfl | hi
    · obtain rfl := Option.some.inj ho
      have hvp : an.eval (.tmp 0) = .agg (numsA .u8 l) := hI.oldQ (by kernel_rfl) rfl
      exact hI.newQ (by kernel_rfl) hls (Nat.le_refl _) (newsQ_spec (l := [0, 1, 2]) (by kernel_rfl) ⟨⟨_, _, rfl⟩, ⟨_, _, rfl⟩, ⟨_, _, rfl⟩, trivial⟩) rfl rfl rfl 23 _ (fun z => z = numsA .u8 l) (run_boxQ rfl hvp wn) rfl rfl hK'
    · obtain rfl := Option.some.inj ho
      have hvp : an.eval (.tmp 1) = .agg (numsA .u8 m) := hI.oldQ (by kernel_rfl) rfl
      exact hI.newQ (by kernel_rfl) hls (Nat.le_refl _) (newsQ_spec (l := [0, 1, 2]) (by kernel_rfl) ⟨⟨_, _, rfl⟩, ⟨_, _, rfl⟩, ⟨_, _, rfl⟩, trivial⟩) rfl rfl rfl 23 _ (fun z => z = numsA .u8 m) (run_boxQ rfl hvp wn) rfl rfl hK'
    · obtain rfl := Option.some.inj ho
      exact hI.newQ (by kernel_rfl) hls (Nat.le_refl _) (newsQ_spec (l := [0, 1, 2]) (by kernel_rfl) ⟨⟨_, _, rfl⟩, ⟨_, _, rfl⟩, ⟨_, _, rfl⟩, trivial⟩) rfl rfl rfl 23 _ (fun z => z = numsA .u8 zeroKL) (run_allocQ rfl zeroK_run wn) rfl rfl hK'
    · obtain rfl := Option.some.inj ho
      exact hI.pureQ (by kernel_rfl) hls rfl rfl rfl (.int .i64 0) (run_moveQ (.inr rfl) (show an.eval (.const (.int .i64 0)) = .int .i64 0 from rfl) wn) (.val (.int .i64 0)) rfl rfl rfl hK'
    · exact hi.elim
  · intro an w1 hI
    obtain ⟨vr0_0, hvr0_0, br0_0, zr0_0, rfl, hnr0_0, hbr0_0, hzr0_0⟩ := hI.haveQ 0 _ 2 (.blk ptrTo 23 (fun z => z = numsA .u8 l)) rfl rfl rfl rfl
    rw [hzr0_0] at hbr0_0
    clear hzr0_0
    obtain ⟨vr0_1, hvr0_1, br0_1, zr0_1, rfl, hnr0_1, hbr0_1, hzr0_1⟩ := hI.haveQ 1 _ 3 (.blk ptrTo 23 (fun z => z = numsA .u8 m)) rfl rfl rfl rfl
    rw [hzr0_1] at hbr0_1
    clear hzr0_1
    obtain ⟨vr0_2, hvr0_2, br0_2, zr0_2, rfl, hnr0_2, hbr0_2, hzr0_2⟩ := hI.haveQ 2 _ 4 (.blk ptrTo 23 (fun z => z = numsA .u8 zeroKL)) rfl rfl rfl rfl
    rw [hzr0_2] at hbr0_2
    clear hzr0_2
    obtain ⟨vr0_3, hvr0_3, hsr0_3⟩ := hI.haveQ 3 _ 5 (.val (.int .i64 0)) rfl rfl rfl rfl
    obtain rfl := hsr0_3
    have hupd := hI.upd
    have hner0_0_r0_1 := Lib.hid (show br0_0 ≠ br0_1 from fun e => hI.apart 0 1 _ _ 2 3 (by omega) rfl rfl rfl rfl rfl rfl rfl rfl (by rw [hvr0_0, hvr0_1, e]))
    have hner0_0_r0_2 := Lib.hid (show br0_0 ≠ br0_2 from fun e => hI.apart 0 2 _ _ 2 4 (by omega) rfl rfl rfl rfl rfl rfl rfl rfl (by rw [hvr0_0, hvr0_2, e]))
    have hner0_1_r0_2 := Lib.hid (show br0_1 ≠ br0_2 from fun e => hI.apart 1 2 _ _ 3 4 (by omega) rfl rfl rfl rfl rfl rfl rfl rfl (by rw [hvr0_1, hvr0_2, e]))
    have ha := hI.act [(2, ptrTo br0_0), (3, ptrTo br0_1), (4, ptrTo br0_2), (5, .int .i64 0)] (by simp [hvr0_0, hvr0_1, hvr0_2, hvr0_3]) (by kernel_rfl)
    clear hI hvr0_0 hvr0_1 hvr0_2 hvr0_3
    subst ha
    simp only [List.foldl_cons, List.foldl_nil, List.setIfInBounds_toArray, List.set_cons_zero, List.set_cons_succ]
    have hger0_0 := Lib.hid (Nat.le_trans HU.out.size hnr0_0)
    have hger0_1 := Lib.hid (Nat.le_trans HU.out.size hnr0_1)
    have hger0_2 := Lib.hid (Nat.le_trans HU.out.size hnr0_2)
    have Bxr0y0 := Lib.hid hbr0_0
    have Bxr0y1 := Lib.hid hbr0_1
    have Bxr0y2 := Lib.hid hbr0_2
    have HU0 := Lib.hid (HU.out.trans hupd)
    clear hupd
    refine wpOps_nil ?_
    refine hK0 _ _ ?_
    clear hK0
    refine wp_seq_k fun K1 hK1 => ?_
    refine wp_region_qS 4 #[true, true, true, true, false] [4] ([.val (.agg (numsA .u8 l)), .val (.agg (numsA .u8 m)), .val (.agg (numsA .u8 (keyOf (ladV (clampL l) (ofKey m))))), .blk ptrTo 23 (fun z => z = numsA .u8 zeroKL), .val undef] : List SQ) (by kernel_rfl) (by kernel_rfl) (by kernel_rfl) ?_ ?_
    · intro i o listed an wn ho hls hst hun hdep hI hpre K' hK'
      have hi : i = 0 ∨ i = 1 ∨ i = 2 ∨ i = 3 ∨ False := slot_cases (l := [0, 1, 2, 3]) rfl ho hst
      rcases hi with rfl | rfl | rfl | rfl | hi
      · obtain rfl := Option.some.inj ho
        have hvp : an.eval (.tmp 2) = ptrTo br0_0 := hI.oldQ (by kernel_rfl) rfl
        exact hI.pureQ (by kernel_rfl) hls rfl rfl rfl _ (run_loadQ rfl hvp wn (hI.upd.blk (show Blk w1 br0_0 23 (numsA .u8 l) from Bxr0y0.out) (fun h => h)) Tryd.underlying23 rfl sizeKey (by rw [numsA_size, hl]; omega)) (.val (.agg (numsA .u8 l))) rfl (congrArg Value.agg (extract_all _ 32 (by rw [numsA_size]; exact hl))) rfl hK'
      · obtain rfl := Option.some.inj ho
        have hvp : an.eval (.tmp 3) = ptrTo br0_1 := hI.oldQ (by kernel_rfl) rfl
        exact hI.pureQ (by kernel_rfl) hls rfl rfl rfl _ (run_loadQ rfl hvp wn (hI.upd.blk (show Blk w1 br0_1 23 (numsA .u8 m) from Bxr0y1.out) (fun h => h)) Tryd.underlying23 rfl sizeKey (by rw [numsA_size, hm]; omega)) (.val (.agg (numsA .u8 m))) rfl (congrArg Value.agg (extract_all _ 32 (by rw [numsA_size]; exact hm))) rfl hK'
      · obtain rfl := Option.some.inj ho
        obtain ⟨vp, hvp, hsp⟩ := hI.haveQ 0 _ 7 (.val (.agg (numsA .u8 l))) rfl rfl rfl (hdep ⟨0, .data⟩ (by simp) rfl)
        obtain rfl := hsp
        obtain ⟨vq, hvq, hsq⟩ := hI.haveQ 1 _ 8 (.val (.agg (numsA .u8 m))) rfl rfl rfl (hdep ⟨1, .data⟩ (by simp) rfl)
        obtain rfl := hsq
        exact hI.callQ (by kernel_rfl) hls rfl rfl rfl 17 #[.tmp 7, .tmp 8] _ rfl #[.agg (numsA .u8 l), .agg (numsA .u8 m)] (by simp [eval_of hvp, eval_of hvq]) (run_enter Tryd.func17 (by kernel_rfl) (by kernel_rfl)) (.val (.agg (numsA .u8 (keyOf (ladV (clampL l) (ofKey m)))))) rfl rfl ((multiplyL _ (HT.out.upd (HU0.out.trans hI.upd)) hl hd hm hn).mono fun _ _ h => ret_val h) hK'
      · obtain rfl := Option.some.inj ho
        exact hI.newQ (by kernel_rfl) hls (Nat.le_refl _) (newsQ_spec (l := [3]) (by kernel_rfl) ⟨⟨_, _, rfl⟩, trivial⟩) rfl rfl rfl 23 _ (fun z => z = numsA .u8 zeroKL) (run_allocQ rfl zeroK_run wn) rfl rfl hK'
      · exact hi.elim
    · intro an w2 hI
      obtain ⟨vr1_0, hvr1_0, hsr1_0⟩ := hI.haveQ 0 _ 7 (.val (.agg (numsA .u8 l))) rfl rfl rfl rfl
      obtain rfl := hsr1_0
      obtain ⟨vr1_1, hvr1_1, hsr1_1⟩ := hI.haveQ 1 _ 8 (.val (.agg (numsA .u8 m))) rfl rfl rfl rfl
      obtain rfl := hsr1_1
      obtain ⟨vr1_2, hvr1_2, hsr1_2⟩ := hI.haveQ 2 _ 9 (.val (.agg (numsA .u8 (keyOf (ladV (clampL l) (ofKey m)))))) rfl rfl rfl rfl
      obtain rfl := hsr1_2
      obtain ⟨vr1_3, hvr1_3, br1_3, zr1_3, rfl, hnr1_3, hbr1_3, hzr1_3⟩ := hI.haveQ 3 _ 6 (.blk ptrTo 23 (fun z => z = numsA .u8 zeroKL)) rfl rfl rfl rfl
      rw [hzr1_3] at hbr1_3
      clear hzr1_3
      have hupd := hI.upd
      have ha := hI.act [(7, .agg (numsA .u8 l)), (8, .agg (numsA .u8 m)), (9, .agg (numsA .u8 (keyOf (ladV (clampL l) (ofKey m))))), (6, ptrTo br1_3)] (by simp [hvr1_0, hvr1_1, hvr1_2, hvr1_3]) (by kernel_rfl)
      clear hI hvr1_0 hvr1_1 hvr1_2 hvr1_3
      subst ha
      simp only [List.foldl_cons, List.foldl_nil, List.setIfInBounds_toArray, List.set_cons_zero, List.set_cons_succ]
      have hner1_3_Bxr0y0 := Lib.hid (show br1_3 ≠ br0_0 from Nat.ne_of_gt (Nat.lt_of_lt_of_le Bxr0y0.out.lt hnr1_3))
      have hner1_3_Bxr0y1 := Lib.hid (show br1_3 ≠ br0_1 from Nat.ne_of_gt (Nat.lt_of_lt_of_le Bxr0y1.out.lt hnr1_3))
      have hner1_3_Bxr0y2 := Lib.hid (show br1_3 ≠ br0_2 from Nat.ne_of_gt (Nat.lt_of_lt_of_le Bxr0y2.out.lt hnr1_3))
      have hger1_3 := Lib.hid (Nat.le_trans HU0.out.size hnr1_3)
      have Bxr0y0_1 := Lib.hid (hupd.blk (show Blk w1 br0_0 23 (numsA .u8 l) from Bxr0y0.out) (fun h => h))
      have Bxr0y1_1 := Lib.hid (hupd.blk (show Blk w1 br0_1 23 (numsA .u8 m) from Bxr0y1.out) (fun h => h))
      have Bxr0y2_1 := Lib.hid (hupd.blk (show Blk w1 br0_2 23 (numsA .u8 zeroKL) from Bxr0y2.out) (fun h => h))
      have Bxr1y3 := Lib.hid hbr1_3
      have HU1 := Lib.hid (HU0.out.trans hupd)
      clear hupd
      refine wpOps_storeQ 4 rfl rfl rfl 23 (.tmp 6) (.tmp 9) rfl br1_3 0 32 rfl (numsA .u8 (keyOf (ladV (clampL l) (ofKey m)))) rfl 23 (numsA .u8 zeroKL) Bxr1y3.out sizeKey (by rw [numsA_size]; exact keyOf_length _) (by rw [(show (numsA _ _).size = 32 by rw [numsA_size]; exact zeroKL_length)]; exact Nat.le_of_ble_eq_true rfl) (numsA_one _ _) ?_
      intro ws1_0 hs1_0 hus1_0
      rw [splice_all _ _ 32 (show (numsA _ _).size = 32 by rw [numsA_size]; exact zeroKL_length) (by rw [numsA_size]; exact keyOf_length _)] at hs1_0
      have Bxr0y0_s1_0 := Lib.hid (hus1_0.blk Bxr0y0_1.out (fun e => hner1_3_Bxr0y0.out e.symm))
      have Bxr0y1_s1_0 := Lib.hid (hus1_0.blk Bxr0y1_1.out (fun e => hner1_3_Bxr0y1.out e.symm))
      have Bxr0y2_s1_0 := Lib.hid (hus1_0.blk Bxr0y2_1.out (fun e => hner1_3_Bxr0y2.out e.symm))
      have Bxr1y3_s1_0 := Lib.hid hs1_0
      have HU1_0 := Lib.hid (HU1.out.step hus1_0 (fun i hi h => absurd hi (Nat.not_lt.2 (h.symm ▸ hger1_3.out))))
      clear hs1_0 hus1_0
      refine wpOps_nil ?_
      refine hK1 _ _ ?_
      clear hK1
      refine wp_seq_k fun K2 hK2 => ?_
      refine wp_seq_k fun K3 hK3 => ?_
      refine wp_region_qS 3 #[true, true, true] [] ([.val (.agg (numsA .u8 (keyOf (ladV (clampL l) (ofKey m))))), .val (.agg (numsA .u8 zeroKL)), .val (.bool true)] : List SQ) (by kernel_rfl) (by kernel_rfl) (by kernel_rfl) ?_ ?_
      · intro i o listed an wn ho hls hst hun hdep hI hpre K' hK'
        have hi : i = 0 ∨ i = 1 ∨ i = 2 ∨ False := slot_cases (l := [0, 1, 2]) rfl ho hst
        rcases hi with rfl | rfl | rfl | hi
        · obtain rfl := Option.some.inj ho
          have hvp : an.eval (.tmp 6) = ptrTo br1_3 := hI.oldQ (by kernel_rfl) rfl
          exact hI.pureQ (by kernel_rfl) hls rfl rfl rfl _ (run_loadQ rfl hvp wn (hI.upd.blk (show Blk ws1_0 br1_3 23 (numsA .u8 (keyOf (ladV (clampL l) (ofKey m)))) from Bxr1y3_s1_0.out) (fun h => h)) Tryd.underlying23 rfl sizeKey (by rw [numsA_size, keyOf_length _]; omega)) (.val (.agg (numsA .u8 (keyOf (ladV (clampL l) (ofKey m)))))) rfl (congrArg Value.agg (extract_all _ 32 (by rw [numsA_size]; exact keyOf_length _))) rfl hK'
        · obtain rfl := Option.some.inj ho
          exact hI.pureQ (by kernel_rfl) hls rfl rfl rfl (.agg (numsA .u8 zeroKL)) (zeroKL_bld rfl wn) (.val (.agg (numsA .u8 zeroKL))) rfl rfl rfl hK'
        · obtain rfl := Option.some.inj ho
          obtain ⟨vp, hvp, hsp⟩ := hI.haveQ 0 _ 10 (.val (.agg (numsA .u8 (keyOf (ladV (clampL l) (ofKey m)))))) rfl rfl rfl (hdep ⟨0, .data⟩ (by simp) rfl)
          obtain rfl := hsp
          obtain ⟨vq, hvq, hsq⟩ := hI.haveQ 1 _ 11 (.val (.agg (numsA .u8 zeroKL))) rfl rfl rfl (hdep ⟨1, .data⟩ (by simp) rfl)
          obtain rfl := hsq
          exact hI.pureQ (by kernel_rfl) hls rfl rfl rfl (.bool true) (run_eqlK (b := true) rfl (eval_of hvp) (eval_of hvq) (keyOf_length _) zeroKL_length hf wn) (.val (.bool true)) rfl rfl rfl hK'
        · exact hi.elim
      · intro an w3 hI
        obtain ⟨vr2_0, hvr2_0, hsr2_0⟩ := hI.haveQ 0 _ 10 (.val (.agg (numsA .u8 (keyOf (ladV (clampL l) (ofKey m)))))) rfl rfl rfl rfl
        obtain rfl := hsr2_0
        obtain ⟨vr2_1, hvr2_1, hsr2_1⟩ := hI.haveQ 1 _ 11 (.val (.agg (numsA .u8 zeroKL))) rfl rfl rfl rfl
        obtain rfl := hsr2_1
        obtain ⟨vr2_2, hvr2_2, hsr2_2⟩ := hI.haveQ 2 _ 12 (.val (.bool true)) rfl rfl rfl rfl
        obtain rfl := hsr2_2
        have hupd := hI.upd
        have ha := hI.act [(10, .agg (numsA .u8 (keyOf (ladV (clampL l) (ofKey m))))), (11, .agg (numsA .u8 zeroKL)), (12, .bool true)] (by simp [hvr2_0, hvr2_1, hvr2_2]) (by kernel_rfl)
        clear hI hvr2_0 hvr2_1 hvr2_2
        subst ha
        simp only [List.foldl_cons, List.foldl_nil, List.setIfInBounds_toArray, List.set_cons_zero, List.set_cons_succ]
        have Bxr0y0_2 := Lib.hid (hupd.blk (show Blk ws1_0 br0_0 23 (numsA .u8 l) from Bxr0y0_s1_0.out) (fun h => h))
        have Bxr0y1_2 := Lib.hid (hupd.blk (show Blk ws1_0 br0_1 23 (numsA .u8 m) from Bxr0y1_s1_0.out) (fun h => h))
        have Bxr0y2_2 := Lib.hid (hupd.blk (show Blk ws1_0 br0_2 23 (numsA .u8 zeroKL) from Bxr0y2_s1_0.out) (fun h => h))
        have Bxr1y3_2 := Lib.hid (hupd.blk (show Blk ws1_0 br1_3 23 (numsA .u8 (keyOf (ladV (clampL l) (ofKey m)))) from Bxr1y3_s1_0.out) (fun h => h))
        have HU2 := Lib.hid (HU1_0.out.trans hupd)
        clear hupd
        refine wpOps_nil ?_
        refine hK3 _ _ ?_
        clear hK3
        refine wp_cond_true rfl ?_
        refine wp_seq_k fun K4 hK4 => ?_
        refine wp_region_qS 1 #[true, false, false] [1, 2] ([.val (.agg (numsA .u8 zeroKL)), .val undef, .val undef] : List SQ) (by kernel_rfl) (by kernel_rfl) (by kernel_rfl) ?_ ?_
        · intro i o listed an wn ho hls hst hun hdep hI hpre K' hK'
          have hi : i = 0 ∨ False := slot_cases (l := [0]) rfl ho hst
          rcases hi with rfl | hi
          · obtain rfl := Option.some.inj ho
            exact hI.pureQ (by kernel_rfl) hls rfl rfl rfl (.agg (numsA .u8 zeroKL)) (zeroKL_bld rfl wn) (.val (.agg (numsA .u8 zeroKL))) rfl rfl rfl hK'
          · exact hi.elim
        · intro an w4 hI
          obtain ⟨vr3_0, hvr3_0, hsr3_0⟩ := hI.haveQ 0 _ 13 (.val (.agg (numsA .u8 zeroKL))) rfl rfl rfl rfl
          obtain rfl := hsr3_0
          have hupd := hI.upd
          have ha := hI.act [(13, .agg (numsA .u8 zeroKL))] (by simp [hvr3_0]) (by kernel_rfl)
          clear hI hvr3_0
          subst ha
          simp only [List.foldl_cons, List.foldl_nil, List.setIfInBounds_toArray, List.set_cons_zero, List.set_cons_succ]
          have Bxr0y0_3 := Lib.hid (hupd.blk (show Blk w3 br0_0 23 (numsA .u8 l) from Bxr0y0_2.out) (fun h => h))
          have Bxr0y1_3 := Lib.hid (hupd.blk (show Blk w3 br0_1 23 (numsA .u8 m) from Bxr0y1_2.out) (fun h => h))
          have Bxr0y2_3 := Lib.hid (hupd.blk (show Blk w3 br0_2 23 (numsA .u8 zeroKL) from Bxr0y2_2.out) (fun h => h))
          have Bxr1y3_3 := Lib.hid (hupd.blk (show Blk w3 br1_3 23 (numsA .u8 (keyOf (ladV (clampL l) (ofKey m)))) from Bxr1y3_2.out) (fun h => h))
          have HU3 := Lib.hid (HU2.out.trans hupd)
          clear hupd
          refine wpOps_storeQ 1 rfl rfl rfl 23 (.tmp 4) (.tmp 13) rfl br0_2 0 32 rfl (numsA .u8 zeroKL) rfl 23 (numsA .u8 zeroKL) Bxr0y2_3.out sizeKey (by rw [numsA_size]; exact zeroKL_length) (by rw [(show (numsA _ _).size = 32 by rw [numsA_size]; exact zeroKL_length)]; exact Nat.le_of_ble_eq_true rfl) (numsA_one _ _) ?_
          intro ws3_0 hs3_0 hus3_0
          rw [splice_all _ _ 32 (show (numsA _ _).size = 32 by rw [numsA_size]; exact zeroKL_length) (by rw [numsA_size]; exact zeroKL_length)] at hs3_0
          have Bxr0y0_s3_0 := Lib.hid (hus3_0.blk Bxr0y0_3.out (fun e => hner0_0_r0_2.out e))
          have Bxr0y1_s3_0 := Lib.hid (hus3_0.blk Bxr0y1_3.out (fun e => hner0_1_r0_2.out e))
          have Bxr1y3_s3_0 := Lib.hid (hus3_0.blk Bxr1y3_3.out (fun e => hner1_3_Bxr0y2.out e))
          have Bxr0y2_s3_0 := Lib.hid hs3_0
          have HU3_0 := Lib.hid (HU3.out.step hus3_0 (fun i hi h => absurd hi (Nat.not_lt.2 (h.symm ▸ hger0_2.out))))
          clear hs3_0 hus3_0
          refine wpOps_pureQ 2 rfl rfl 5 rfl (.int .i64 50) (run_moveQ (x := .const (.int .i64 50)) (v := .int .i64 50) (.inr rfl) rfl _) ?_
          simp only [List.setIfInBounds_toArray, List.set_cons_zero, List.set_cons_succ]
          refine wpOps_nil ?_
          refine hK4 _ _ ?_
          clear hK4
          refine wp_ret ?_
          try dsimp only [Exit.then]
          try dsimp only [Exit.inBlock]
          exact bodyPost_ret (v := .tuple #[.agg (numsA .u8 zeroKL), .int .i64 50]) (results_cell_tmpQ (fn := Tryd.f19) (p := 4) (q := 5) (ty := 23) rfl _ _ br0_2 (numsA .u8 zeroKL) (.int .i64 50) rfl rfl Bxr0y2_s3_0.out Tryd.underlying23 rfl (by rw [numsA_size, zeroKL_length]; exact sizeKey)) rfl ⟨by rw [hz, hk], HU3_0.out⟩
set_option maxHeartbeats 4000000 in
theorem agreefalse {l m : List Int} (w : World) (hT : Tw w) (hl : l.length = 32) (hd : Digs 256 l) (hm : m.length = 32) (hn : Digs 256 m) (hk0 : ¬ keyOf (ladV (clampL l) (ofKey m)) = zeroKL) :
    Calls Tryd.prog 19 #[.agg (numsA .u8 l), .agg (numsA .u8 m)] w fun e w' => e = .returned (.tuple #[.agg (numsA .u8 (keyOf (ladV (clampL l) (ofKey m)))), .int .i64 (agE (ladV (clampL l) (ofKey m)))]) ∧ Upd (fun _ => False) w w' := by
  have HT := Lib.hid hT
  clear hT
  have HU := Lib.hid (Upd.refl (fun _ => False) w)
  have hz : agE (ladV (clampL l) (ofKey m)) = 0 := if_neg hk0
  have hf : decide (keyOf (ladV (clampL l) (ofKey m)) = zeroKL) = false := decide_eq_false hk0
  go_enter Tryd.func19, Tryd.ntmps19
  refine wp_seq_k fun K0 hK0 => ?_
  refine wp_region_qS 4 #[true, true, true, true] [] ([.blk ptrTo 23 (fun z => z = numsA .u8 l), .blk ptrTo 23 (fun z => z = numsA .u8 m), .blk ptrTo 23 (fun z => z = numsA .u8 zeroKL), .val (.int .i64 0)] : List SQ) (by kernel_rfl) (by kernel_rfl) (by kernel_rfl) ?_ ?_
  · intro i o listed an wn ho hls hst hun hdep hI hpre K' hK'
    have hi : i = 0 ∨ i = 1 ∨ i = 2 ∨ i = 3 ∨ False := slot_cases (l := [0, 1, 2, 3]) rfl ho hst
    rcases hi with rfl | rfl | rfl | rfl | hi
    · obtain rfl := Option.some.inj ho
      have hvp : an.eval (.tmp 0) = .agg (numsA .u8 l) := hI.oldQ (by kernel_rfl) rfl
      exact hI.newQ (by kernel_rfl) hls (Nat.le_refl _) (newsQ_spec (l := [0, 1, 2]) (by kernel_rfl) ⟨⟨_, _, rfl⟩, ⟨_, _, rfl⟩, ⟨_, _, rfl⟩, trivial⟩) rfl rfl rfl 23 _ (fun z => z = numsA .u8 l) (run_boxQ rfl hvp wn) rfl rfl hK'
    · obtain rfl := Option.some.inj ho
      have hvp : an.eval (.tmp 1) = .agg (numsA .u8 m) := hI.oldQ (by kernel_rfl) rfl
      exact hI.newQ (by kernel_rfl) hls (Nat.le_refl _) (newsQ_spec (l := [0, 1, 2]) (by kernel_rfl) ⟨⟨_, _, rfl⟩, ⟨_, _, rfl⟩, ⟨_, _, rfl⟩, trivial⟩) rfl rfl rfl 23 _ (fun z => z = numsA .u8 m) (run_boxQ rfl hvp wn) rfl rfl hK'
    · obtain rfl := Option.some.inj ho
      exact hI.newQ (by kernel_rfl) hls (Nat.le_refl _) (newsQ_spec (l := [0, 1, 2]) (by kernel_rfl) ⟨⟨_, _, rfl⟩, ⟨_, _, rfl⟩, ⟨_, _, rfl⟩, trivial⟩) rfl rfl rfl 23 _ (fun z => z = numsA .u8 zeroKL) (run_allocQ rfl zeroK_run wn) rfl rfl hK'
    · obtain rfl := Option.some.inj ho
      exact hI.pureQ (by kernel_rfl) hls rfl rfl rfl (.int .i64 0) (run_moveQ (.inr rfl) (show an.eval (.const (.int .i64 0)) = .int .i64 0 from rfl) wn) (.val (.int .i64 0)) rfl rfl rfl hK'
    · exact hi.elim
  · intro an w1 hI
    obtain ⟨vr0_0, hvr0_0, br0_0, zr0_0, rfl, hnr0_0, hbr0_0, hzr0_0⟩ := hI.haveQ 0 _ 2 (.blk ptrTo 23 (fun z => z = numsA .u8 l)) rfl rfl rfl rfl
    rw [hzr0_0] at hbr0_0
    clear hzr0_0
    obtain ⟨vr0_1, hvr0_1, br0_1, zr0_1, rfl, hnr0_1, hbr0_1, hzr0_1⟩ := hI.haveQ 1 _ 3 (.blk ptrTo 23 (fun z => z = numsA .u8 m)) rfl rfl rfl rfl
    rw [hzr0_1] at hbr0_1
    clear hzr0_1
    obtain ⟨vr0_2, hvr0_2, br0_2, zr0_2, rfl, hnr0_2, hbr0_2, hzr0_2⟩ := hI.haveQ 2 _ 4 (.blk ptrTo 23 (fun z => z = numsA .u8 zeroKL)) rfl rfl rfl rfl
    rw [hzr0_2] at hbr0_2
    clear hzr0_2
    obtain ⟨vr0_3, hvr0_3, hsr0_3⟩ := hI.haveQ 3 _ 5 (.val (.int .i64 0)) rfl rfl rfl rfl
    obtain rfl := hsr0_3
    have hupd := hI.upd
    have hner0_0_r0_1 := Lib.hid (show br0_0 ≠ br0_1 from fun e => hI.apart 0 1 _ _ 2 3 (by omega) rfl rfl rfl rfl rfl rfl rfl rfl (by rw [hvr0_0, hvr0_1, e]))
    have hner0_0_r0_2 := Lib.hid (show br0_0 ≠ br0_2 from fun e => hI.apart 0 2 _ _ 2 4 (by omega) rfl rfl rfl rfl rfl rfl rfl rfl (by rw [hvr0_0, hvr0_2, e]))
    have hner0_1_r0_2 := Lib.hid (show br0_1 ≠ br0_2 from fun e => hI.apart 1 2 _ _ 3 4 (by omega) rfl rfl rfl rfl rfl rfl rfl rfl (by rw [hvr0_1, hvr0_2, e]))
    have ha := hI.act [(2, ptrTo br0_0), (3, ptrTo br0_1), (4, ptrTo br0_2), (5, .int .i64 0)] (by simp [hvr0_0, hvr0_1, hvr0_2, hvr0_3]) (by kernel_rfl)
    clear hI hvr0_0 hvr0_1 hvr0_2 hvr0_3
    subst ha
    simp only [List.foldl_cons, List.foldl_nil, List.setIfInBounds_toArray, List.set_cons_zero, List.set_cons_succ]
    have hger0_0 := Lib.hid (Nat.le_trans HU.out.size hnr0_0)
    have hger0_1 := Lib.hid (Nat.le_trans HU.out.size hnr0_1)
    have hger0_2 := Lib.hid (Nat.le_trans HU.out.size hnr0_2)
    have Bxr0y0 := Lib.hid hbr0_0
    have Bxr0y1 := Lib.hid hbr0_1
    have Bxr0y2 := Lib.hid hbr0_2
    have HU0 := Lib.hid (HU.out.trans hupd)
    clear hupd
    refine wpOps_nil ?_
    refine hK0 _ _ ?_
    clear hK0
    refine wp_seq_k fun K1 hK1 => ?_
    refine wp_region_qS 4 #[true, true, true, true, false] [4] ([.val (.agg (numsA .u8 l)), .val (.agg (numsA .u8 m)), .val (.agg (numsA .u8 (keyOf (ladV (clampL l) (ofKey m))))), .blk ptrTo 23 (fun z => z = numsA .u8 zeroKL), .val undef] : List SQ) (by kernel_rfl) (by kernel_rfl) (by kernel_rfl) ?_ ?_
    · intro i o listed an wn ho hls hst hun hdep hI hpre K' hK'
      have hi : i = 0 ∨ i = 1 ∨ i = 2 ∨ i = 3 ∨ False := slot_cases (l := [0, 1, 2, 3]) rfl ho hst
      rcases hi with rfl | rfl | rfl | rfl | hi
      · obtain rfl := Option.some.inj ho
        have hvp : an.eval (.tmp 2) = ptrTo br0_0 := hI.oldQ (by kernel_rfl) rfl
        exact hI.pureQ (by kernel_rfl) hls rfl rfl rfl _ (run_loadQ rfl hvp wn (hI.upd.blk (show Blk w1 br0_0 23 (numsA .u8 l) from Bxr0y0.out) (fun h => h)) Tryd.underlying23 rfl sizeKey (by rw [numsA_size, hl]; omega)) (.val (.agg (numsA .u8 l))) rfl (congrArg Value.agg (extract_all _ 32 (by rw [numsA_size]; exact hl))) rfl hK'
      · obtain rfl := Option.some.inj ho
        have hvp : an.eval (.tmp 3) = ptrTo br0_1 := hI.oldQ (by kernel_rfl) rfl
        exact hI.pureQ (by kernel_rfl) hls rfl rfl rfl _ (run_loadQ rfl hvp wn (hI.upd.blk (show Blk w1 br0_1 23 (numsA .u8 m) from Bxr0y1.out) (fun h => h)) Tryd.underlying23 rfl sizeKey (by rw [numsA_size, hm]; omega)) (.val (.agg (numsA .u8 m))) rfl (congrArg Value.agg (extract_all _ 32 (by rw [numsA_size]; exact hm))) rfl hK'
      · obtain rfl := Option.some.inj ho
        obtain ⟨vp, hvp, hsp⟩ := hI.haveQ 0 _ 7 (.val (.agg (numsA .u8 l))) rfl rfl rfl (hdep ⟨0, .data⟩ (by simp) rfl)
        obtain rfl := hsp
        obtain ⟨vq, hvq, hsq⟩ := hI.haveQ 1 _ 8 (.val (.agg (numsA .u8 m))) rfl rfl rfl (hdep ⟨1, .data⟩ (by simp) rfl)
        obtain rfl := hsq
        exact hI.callQ (by kernel_rfl) hls rfl rfl rfl 17 #[.tmp 7, .tmp 8] _ rfl #[.agg (numsA .u8 l), .agg (numsA .u8 m)] (by simp [eval_of hvp, eval_of hvq]) (run_enter Tryd.func17 (by kernel_rfl) (by kernel_rfl)) (.val (.agg (numsA .u8 (keyOf (ladV (clampL l) (ofKey m)))))) rfl rfl ((multiplyL _ (HT.out.upd (HU0.out.trans hI.upd)) hl hd hm hn).mono fun _ _ h => ret_val h) hK'
      · obtain rfl := Option.some.inj ho
        exact hI.newQ (by kernel_rfl) hls (Nat.le_refl _) (newsQ_spec (l := [3]) (by kernel_rfl) ⟨⟨_, _, rfl⟩, trivial⟩) rfl rfl rfl 23 _ (fun z => z = numsA .u8 zeroKL) (run_allocQ rfl zeroK_run wn) rfl rfl hK'
      · exact hi.elim
    · intro an w2 hI
      obtain ⟨vr1_0, hvr1_0, hsr1_0⟩ := hI.haveQ 0 _ 7 (.val (.agg (numsA .u8 l))) rfl rfl rfl rfl
      obtain rfl := hsr1_0
      obtain ⟨vr1_1, hvr1_1, hsr1_1⟩ := hI.haveQ 1 _ 8 (.val (.agg (numsA .u8 m))) rfl rfl rfl rfl
      obtain rfl := hsr1_1
      obtain ⟨vr1_2, hvr1_2, hsr1_2⟩ := hI.haveQ 2 _ 9 (.val (.agg (numsA .u8 (keyOf (ladV (clampL l) (ofKey m)))))) rfl rfl rfl rfl
      obtain rfl := hsr1_2
      obtain ⟨vr1_3, hvr1_3, br1_3, zr1_3, rfl, hnr1_3, hbr1_3, hzr1_3⟩ := hI.haveQ 3 _ 6 (.blk ptrTo 23 (fun z => z = numsA .u8 zeroKL)) rfl rfl rfl rfl
      rw [hzr1_3] at hbr1_3
      clear hzr1_3
      have hupd := hI.upd
      have ha := hI.act [(7, .agg (numsA .u8 l)), (8, .agg (numsA .u8 m)), (9, .agg (numsA .u8 (keyOf (ladV (clampL l) (ofKey m))))), (6, ptrTo br1_3)] (by simp [hvr1_0, hvr1_1, hvr1_2, hvr1_3]) (by kernel_rfl)
      clear hI hvr1_0 hvr1_1 hvr1_2 hvr1_3
      subst ha
      simp only [List.foldl_cons, List.foldl_nil, List.setIfInBounds_toArray, List.set_cons_zero, List.set_cons_succ]
      have hner1_3_Bxr0y0 := Lib.hid (show br1_3 ≠ br0_0 from Nat.ne_of_gt (Nat.lt_of_lt_of_le Bxr0y0.out.lt hnr1_3))
      have hner1_3_Bxr0y1 := Lib.hid (show br1_3 ≠ br0_1 from Nat.ne_of_gt (Nat.lt_of_lt_of_le Bxr0y1.out.lt hnr1_3))
      have hner1_3_Bxr0y2 := Lib.hid (show br1_3 ≠ br0_2 from Nat.ne_of_gt (Nat.lt_of_lt_of_le Bxr0y2.out.lt hnr1_3))
      have hger1_3 := Lib.hid (Nat.le_trans HU0.out.size hnr1_3)
      have Bxr0y0_1 := Lib.hid (hupd.blk (show Blk w1 br0_0 23 (numsA .u8 l) from Bxr0y0.out) (fun h => h))
      have Bxr0y1_1 := Lib.hid (hupd.blk (show Blk w1 br0_1 23 (numsA .u8 m) from Bxr0y1.out) (fun h => h))
      have Bxr0y2_1 := Lib.hid (hupd.blk (show Blk w1 br0_2 23 (numsA .u8 zeroKL) from Bxr0y2.out) (fun h => h))
      have Bxr1y3 := Lib.hid hbr1_3
      have HU1 := Lib.hid (HU0.out.trans hupd)
      clear hupd
      refine wpOps_storeQ 4 rfl rfl rfl 23 (.tmp 6) (.tmp 9) rfl br1_3 0 32 rfl (numsA .u8 (keyOf (ladV (clampL l) (ofKey m)))) rfl 23 (numsA .u8 zeroKL) Bxr1y3.out sizeKey (by rw [numsA_size]; exact keyOf_length _) (by rw [(show (numsA _ _).size = 32 by rw [numsA_size]; exact zeroKL_length)]; exact Nat.le_of_ble_eq_true rfl) (numsA_one _ _) ?_
      intro ws1_0 hs1_0 hus1_0
      rw [splice_all _ _ 32 (show (numsA _ _).size = 32 by rw [numsA_size]; exact zeroKL_length) (by rw [numsA_size]; exact keyOf_length _)] at hs1_0
      have Bxr0y0_s1_0 := Lib.hid (hus1_0.blk Bxr0y0_1.out (fun e => hner1_3_Bxr0y0.out e.symm))
      have Bxr0y1_s1_0 := Lib.hid (hus1_0.blk Bxr0y1_1.out (fun e => hner1_3_Bxr0y1.out e.symm))
      have Bxr0y2_s1_0 := Lib.hid (hus1_0.blk Bxr0y2_1.out (fun e => hner1_3_Bxr0y2.out e.symm))
      have Bxr1y3_s1_0 := Lib.hid hs1_0
      have HU1_0 := Lib.hid (HU1.out.step hus1_0 (fun i hi h => absurd hi (Nat.not_lt.2 (h.symm ▸ hger1_3.out))))
      clear hs1_0 hus1_0
      refine wpOps_nil ?_
      refine hK1 _ _ ?_
      clear hK1
      refine wp_seq_k fun K2 hK2 => ?_
      refine wp_seq_k fun K3 hK3 => ?_
      refine wp_region_qS 3 #[true, true, true] [] ([.val (.agg (numsA .u8 (keyOf (ladV (clampL l) (ofKey m))))), .val (.agg (numsA .u8 zeroKL)), .val (.bool false)] : List SQ) (by kernel_rfl) (by kernel_rfl) (by kernel_rfl) ?_ ?_
      · intro i o listed an wn ho hls hst hun hdep hI hpre K' hK'
        have hi : i = 0 ∨ i = 1 ∨ i = 2 ∨ False := slot_cases (l := [0, 1, 2]) rfl ho hst
        rcases hi with rfl | rfl | rfl | hi
        · obtain rfl := Option.some.inj ho
          have hvp : an.eval (.tmp 6) = ptrTo br1_3 := hI.oldQ (by kernel_rfl) rfl
          exact hI.pureQ (by kernel_rfl) hls rfl rfl rfl _ (run_loadQ rfl hvp wn (hI.upd.blk (show Blk ws1_0 br1_3 23 (numsA .u8 (keyOf (ladV (clampL l) (ofKey m)))) from Bxr1y3_s1_0.out) (fun h => h)) Tryd.underlying23 rfl sizeKey (by rw [numsA_size, keyOf_length _]; omega)) (.val (.agg (numsA .u8 (keyOf (ladV (clampL l) (ofKey m)))))) rfl (congrArg Value.agg (extract_all _ 32 (by rw [numsA_size]; exact keyOf_length _))) rfl hK'
        · obtain rfl := Option.some.inj ho
          exact hI.pureQ (by kernel_rfl) hls rfl rfl rfl (.agg (numsA .u8 zeroKL)) (zeroKL_bld rfl wn) (.val (.agg (numsA .u8 zeroKL))) rfl rfl rfl hK'
        · obtain rfl := Option.some.inj ho
          obtain ⟨vp, hvp, hsp⟩ := hI.haveQ 0 _ 10 (.val (.agg (numsA .u8 (keyOf (ladV (clampL l) (ofKey m)))))) rfl rfl rfl (hdep ⟨0, .data⟩ (by simp) rfl)
          obtain rfl := hsp
          obtain ⟨vq, hvq, hsq⟩ := hI.haveQ 1 _ 11 (.val (.agg (numsA .u8 zeroKL))) rfl rfl rfl (hdep ⟨1, .data⟩ (by simp) rfl)
          obtain rfl := hsq
          exact hI.pureQ (by kernel_rfl) hls rfl rfl rfl (.bool false) (run_eqlK (b := false) rfl (eval_of hvp) (eval_of hvq) (keyOf_length _) zeroKL_length hf wn) (.val (.bool false)) rfl rfl rfl hK'
        · exact hi.elim
      · intro an w3 hI
        obtain ⟨vr2_0, hvr2_0, hsr2_0⟩ := hI.haveQ 0 _ 10 (.val (.agg (numsA .u8 (keyOf (ladV (clampL l) (ofKey m)))))) rfl rfl rfl rfl
        obtain rfl := hsr2_0
        obtain ⟨vr2_1, hvr2_1, hsr2_1⟩ := hI.haveQ 1 _ 11 (.val (.agg (numsA .u8 zeroKL))) rfl rfl rfl rfl
        obtain rfl := hsr2_1
        obtain ⟨vr2_2, hvr2_2, hsr2_2⟩ := hI.haveQ 2 _ 12 (.val (.bool false)) rfl rfl rfl rfl
        obtain rfl := hsr2_2
        have hupd := hI.upd
        have ha := hI.act [(10, .agg (numsA .u8 (keyOf (ladV (clampL l) (ofKey m))))), (11, .agg (numsA .u8 zeroKL)), (12, .bool false)] (by simp [hvr2_0, hvr2_1, hvr2_2]) (by kernel_rfl)
        clear hI hvr2_0 hvr2_1 hvr2_2
        subst ha
        simp only [List.foldl_cons, List.foldl_nil, List.setIfInBounds_toArray, List.set_cons_zero, List.set_cons_succ]
        have Bxr0y0_2 := Lib.hid (hupd.blk (show Blk ws1_0 br0_0 23 (numsA .u8 l) from Bxr0y0_s1_0.out) (fun h => h))
        have Bxr0y1_2 := Lib.hid (hupd.blk (show Blk ws1_0 br0_1 23 (numsA .u8 m) from Bxr0y1_s1_0.out) (fun h => h))
        have Bxr0y2_2 := Lib.hid (hupd.blk (show Blk ws1_0 br0_2 23 (numsA .u8 zeroKL) from Bxr0y2_s1_0.out) (fun h => h))
        have Bxr1y3_2 := Lib.hid (hupd.blk (show Blk ws1_0 br1_3 23 (numsA .u8 (keyOf (ladV (clampL l) (ofKey m)))) from Bxr1y3_s1_0.out) (fun h => h))
        have HU2 := Lib.hid (HU1_0.out.trans hupd)
        clear hupd
        refine wpOps_nil ?_
        refine hK3 _ _ ?_
        clear hK3
        refine wp_cond_false rfl ?_
        refine wp_skip ?_
        refine hK2 _ _ ?_
        clear hK2
        refine wp_seq_k fun K4 hK4 => ?_
        refine wp_region_qS 1 #[true, false, false] [1, 2] ([.val (.agg (numsA .u8 (keyOf (ladV (clampL l) (ofKey m))))), .val undef, .val undef] : List SQ) (by kernel_rfl) (by kernel_rfl) (by kernel_rfl) ?_ ?_
        · intro i o listed an wn ho hls hst hun hdep hI hpre K' hK'
          have hi : i = 0 ∨ False := slot_cases (l := [0]) rfl ho hst
          rcases hi with rfl | hi
          · obtain rfl := Option.some.inj ho
            have hvp : an.eval (.tmp 6) = ptrTo br1_3 := hI.oldQ (by kernel_rfl) rfl
            exact hI.pureQ (by kernel_rfl) hls rfl rfl rfl _ (run_loadQ rfl hvp wn (hI.upd.blk (show Blk w3 br1_3 23 (numsA .u8 (keyOf (ladV (clampL l) (ofKey m)))) from Bxr1y3_2.out) (fun h => h)) Tryd.underlying23 rfl sizeKey (by rw [numsA_size, keyOf_length _]; omega)) (.val (.agg (numsA .u8 (keyOf (ladV (clampL l) (ofKey m)))))) rfl (congrArg Value.agg (extract_all _ 32 (by rw [numsA_size]; exact keyOf_length _))) rfl hK'
          · exact hi.elim
        · intro an w4 hI
          obtain ⟨vr3_0, hvr3_0, hsr3_0⟩ := hI.haveQ 0 _ 14 (.val (.agg (numsA .u8 (keyOf (ladV (clampL l) (ofKey m)))))) rfl rfl rfl rfl
          obtain rfl := hsr3_0
          have hupd := hI.upd
          have ha := hI.act [(14, .agg (numsA .u8 (keyOf (ladV (clampL l) (ofKey m)))))] (by simp [hvr3_0]) (by kernel_rfl)
          clear hI hvr3_0
          subst ha
          simp only [List.foldl_cons, List.foldl_nil, List.setIfInBounds_toArray, List.set_cons_zero, List.set_cons_succ]
          have Bxr0y0_3 := Lib.hid (hupd.blk (show Blk w3 br0_0 23 (numsA .u8 l) from Bxr0y0_2.out) (fun h => h))
          have Bxr0y1_3 := Lib.hid (hupd.blk (show Blk w3 br0_1 23 (numsA .u8 m) from Bxr0y1_2.out) (fun h => h))
          have Bxr0y2_3 := Lib.hid (hupd.blk (show Blk w3 br0_2 23 (numsA .u8 zeroKL) from Bxr0y2_2.out) (fun h => h))
          have Bxr1y3_3 := Lib.hid (hupd.blk (show Blk w3 br1_3 23 (numsA .u8 (keyOf (ladV (clampL l) (ofKey m)))) from Bxr1y3_2.out) (fun h => h))
          have HU3 := Lib.hid (HU2.out.trans hupd)
          clear hupd
          refine wpOps_storeQ 1 rfl rfl rfl 23 (.tmp 4) (.tmp 14) rfl br0_2 0 32 rfl (numsA .u8 (keyOf (ladV (clampL l) (ofKey m)))) rfl 23 (numsA .u8 zeroKL) Bxr0y2_3.out sizeKey (by rw [numsA_size]; exact keyOf_length _) (by rw [(show (numsA _ _).size = 32 by rw [numsA_size]; exact zeroKL_length)]; exact Nat.le_of_ble_eq_true rfl) (numsA_one _ _) ?_
          intro ws3_0 hs3_0 hus3_0
          rw [splice_all _ _ 32 (show (numsA _ _).size = 32 by rw [numsA_size]; exact zeroKL_length) (by rw [numsA_size]; exact keyOf_length _)] at hs3_0
          have Bxr0y0_s3_0 := Lib.hid (hus3_0.blk Bxr0y0_3.out (fun e => hner0_0_r0_2.out e))
          have Bxr0y1_s3_0 := Lib.hid (hus3_0.blk Bxr0y1_3.out (fun e => hner0_1_r0_2.out e))
          have Bxr1y3_s3_0 := Lib.hid (hus3_0.blk Bxr1y3_3.out (fun e => hner1_3_Bxr0y2.out e))
          have Bxr0y2_s3_0 := Lib.hid hs3_0
          have HU3_0 := Lib.hid (HU3.out.step hus3_0 (fun i hi h => absurd hi (Nat.not_lt.2 (h.symm ▸ hger0_2.out))))
          clear hs3_0 hus3_0
          refine wpOps_pureQ 2 rfl rfl 5 rfl (.int .i64 0) (run_moveQ (x := .const (.int .i64 0)) (v := .int .i64 0) (.inr rfl) rfl _) ?_
          simp only [List.setIfInBounds_toArray, List.set_cons_zero, List.set_cons_succ]
          refine wpOps_nil ?_
          refine hK4 _ _ ?_
          clear hK4
          refine wp_ret ?_
          try dsimp only [Exit.then]
          try dsimp only [Exit.inBlock]
          exact bodyPost_ret (v := .tuple #[.agg (numsA .u8 (keyOf (ladV (clampL l) (ofKey m)))), .int .i64 0]) (results_cell_tmpQ (fn := Tryd.f19) (p := 4) (q := 5) (ty := 23) rfl _ _ br0_2 (numsA .u8 (keyOf (ladV (clampL l) (ofKey m)))) (.int .i64 0) rfl rfl Bxr0y2_s3_0.out Tryd.underlying23 rfl (by rw [numsA_size, keyOf_length _]; exact sizeKey)) rfl ⟨by rw [hz], HU3_0.out⟩
theorem agreeL {l m : List Int} (w : World) (hT : Tw w) (hl : l.length = 32) (hd : Digs 256 l) (hm : m.length = 32) (hn : Digs 256 m) :
    Calls Tryd.prog 19 #[.agg (numsA .u8 l), .agg (numsA .u8 m)] w fun e w' => e = .returned (.tuple #[.agg (numsA .u8 (keyOf (ladV (clampL l) (ofKey m)))), .int .i64 (agE (ladV (clampL l) (ofKey m)))]) ∧ Upd (fun _ => False) w w' := by
  by_cases hk : keyOf (ladV (clampL l) (ofKey m)) = zeroKL
  · exact agreetrue w hT hl hd hm hn hk
  · exact agreefalse w hT hl hd hm hn hk
end Go.Proofs.YtdpafemcpbhlfaaDoor
