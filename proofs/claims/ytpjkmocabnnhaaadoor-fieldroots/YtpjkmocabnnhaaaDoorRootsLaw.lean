/-
  The walk of FieldRoots.
-/
import Derived.Test.YtpjkmocabnnhaaaDoorRootWalk
import Derived.Test.YtpjkmocabnnhaaaDoorRefS
import Derived.Test.YtpjkmocabnnhaaaDoorFloat
import Derived.Deep.DeepCutAuto
namespace Go.Proofs.YtpjkmocabnnhaaaDoor
open Go.RowKit

theorem enterRoot (vs : Array Value) (w : World) : (callFunc 20 vs).run Tryd.prog w = .ok (.enter 20 vs) w := run_enter Tryd.func20 (by kernel_rfl) (by kernel_rfl) vs w
theorem enterrSquare (vs : Array Value) (w : World) : (callFunc 23 vs).run Tryd.prog w = .ok (.enter 23 vs) w := run_enter Tryd.func23 (by kernel_rfl) (by kernel_rfl) vs w
theorem enterrIsRoot (vs : Array Value) (w : World) : (callFunc 27 vs).run Tryd.prog w = .ok (.enter 27 vs) w := run_enter Tryd.func27 (by kernel_rfl) (by kernel_rfl) vs w
/-- Root's answer, as it lies in a slot. -/
def LikeRoot (m n : Int) (v : Value) : Prop := ∃ r0 r1 r2 r3 r4 : Int, v = .tuple #[.agg #[.int .u64 r0, .int .u64 r1, .int .u64 r2, .int .u64 r3, .int .u64 r4], .bool (rootB m n)] ∧ Fits r0 r1 r2 r3 r4 (rootV m n)
theorem RetRoot.sp {m n : Int} {w : World} {base : Nat} {e : Ending} {w' : World} (h : RetRoot m n w e w') : ∃ v, e = .returned v ∧ (SP.like (LikeRoot m n)).holds base v w' ∧ Upd (fun _ => False) w w' := by
  obtain ⟨r0, r1, r2, r3, r4, hF, rfl, hu⟩ := h
  exact ⟨_, rfl, ⟨r0, r1, r2, r3, r4, rfl, hF⟩, hu⟩
theorem run_extract {o : Oper} {a : Act} {p : Operand} {x y : Value} {k : Nat} {z : Value} (ho : o.op = .extract p k) (hp : a.eval p = .tuple #[x, y]) (hz : #[x, y][k]? = some z) (w : World) : (execOp a.eval o).run Tryd.prog w = .ok (.value z) w := by
  generalize a.eval = ev at hp ⊢
  unfold execOp
  simp only [ho]
  simp [hp, go_sem, hz]
theorem Slots.stepPure2 {P : Program} {ops : Array Oper} {Q : Exit → Act → World → Prop} {sp : List SP} {a0 : Act} {w0 : World} {listed : Array Bool} {a : Act} {w : World} {base : Nat} {K' : Act → World → Prop} {E : Prop} {i : Nat} {o : Oper} {d : Nat}
    (h : Slots ops (specOf base sp) a0 w0 listed a w) (hdst : dstB ops a0.tmps.size = true) (hls : listed.size = ops.size) (ho : ops[i]? = some o) (hw : Region.wanted o (yielded ops a.tmps) = true) (hd : o.dst = some d) (v : Value)
    (hrun : (execOp a.eval o).run P w = .ok (.value v) w) (s : SP) (hsp : sp[i]? = some s) (hs : s.holds base v w) (hnew : newB o = false)
    (hK' : ∀ a' w', Slots ops (specOf base sp) a0 w0 (listed.setIfInBounds i true) a' w' → K' a' w') : if Region.wanted o (yielded ops a.tmps) = true then Oper.wp P o a w K' Q else E := by
  rw [if_pos hw]
  unfold Oper.wp
  rw [hrun, Oper.upon_value]
  exact hK' _ _ (h.put hdst (specOf_stable base sp) hls ho hd (Upd.refl _ w) (fun s' hs' => by rw [hsp] at hs'; cases hs'; exact hs) (fun hq => by rw [hnew] at hq; cases hq))
theorem run_neqBool {o : Oper} {a : Act} {p q : Operand} {b c : Bool} (ho : o.op = .binOp .neq 4 p q 4) (hp : a.eval p = .bool b) (hq : a.eval q = .bool c) (h : b = c) (w : World) : (execOp a.eval o).run Tryd.prog w = .ok (.value (.bool false)) w := by
  subst h
  generalize a.eval = ev at hp hq ⊢
  unfold execOp
  simp only [ho]
  simp [hp, hq, go_sem]
theorem dec_root {m n : Int} (h : rootB m n = true) : decide (keyNum (digits 256 32 (rootV m n % pp)) * keyNum (digits 256 32 (rootV m n % pp)) * n % pp = m % pp) = true := by
  rw [keyNum_digits]
  have h1 := ((Cong.mod (rootV m n)).mul (Cong.mod (rootV m n))).mul (Cong.refl n)
  rw [decide_eq_true_iff]
  exact (h1.trans (rootV_root m n h)).mod_eq
set_option maxRecDepth 100000 in
set_option maxHeartbeats 1600000 in
theorem fieldRoots_any (la lb : List Int) (w : World) (hT : Tw w) (hla : la.length = 32) (hda : Digs 256 la) (hlb : lb.length = 32) (hdb : Digs 256 lb) :
    Calls Tryd.prog 4 #[.agg (numsA .u8 la), .agg (numsA .u8 lb)] w fun e w' => e = .returned (.bool true) ∧ Upd (fun _ => False) w w' := by
  have HT := Lib.hid hT
  have Hla := Lib.hid hla
  have Hda := Lib.hid hda
  have Hlb := Lib.hid hlb
  have Hdb := Lib.hid hdb
  have HA : Hid ((numsA .u8 la).size = 32) := by show _ = _; rw [numsA_size]; exact hla
  have HB : Hid ((numsA .u8 lb).size = 32) := by show _ = _; rw [numsA_size]; exact hlb
  clear hT hla hda hlb hdb
  have hz := zeroN_run
  have hg := guardNum
  go_enter Tryd.func4, Tryd.ntmps4
  go_wp2_with fail
  refine (counts_any _).mono ?_
  rintro e w1 ⟨rfl, hu⟩
  have Hka := Lib.hid (hu.blk ((Blk.at1 w (numsA .u8 la) 23).alloc _) (fun h => h))
  have Hkb := Lib.hid (hu.blk (Blk.at2 w _ (numsA .u8 lb) 23) (fun h => h))
  have Hu1 := Lib.hid ((((Upd.refl (fun _ => False) w).alloc _).alloc _).trans hu)
  clear hu
  go_wp2
  refine wp_region_slots #[true, true, true, true, true, true, false, false] ([.val (.agg (numsA .u8 la)), .val (.agg (numN (keyNum la))), .val (.agg (numsA .u8 lb)), .val (.agg (numN (keyNum lb))), .new 31 zeroN, .new 31 zeroN] : List SP) (by kernel_rfl) (by kernel_rfl) (by kernel_rfl) ?_ ?_
  · intro i o listed an wn ho hls hst hun hdep hI K' hK'
    have hi : i < 6 := by
      rcases Nat.lt_or_ge i 6 with h | h
      · exact h
      · exfalso
        have hq : i = 6 ∨ i = 7 ∨ 8 ≤ i := by omega
        rcases hq with rfl | rfl | h2
        · cases hst
        · cases hst
        · have := idx_lt ho; simp at this; omega
    have hcase : i = 0 ∨ i = 1 ∨ i = 2 ∨ i = 3 ∨ i = 4 ∨ i = 5 := by omega
    rcases hcase with rfl | rfl | rfl | rfl | rfl | rfl
    · obtain rfl := Option.some.inj ho
      exact hI.stepLoad (by kernel_rfl) hls rfl rfl rfl 23 2 rfl (by kernel_rfl) (w.heap.size) 32 rfl 23 (numsA .u8 la) Hka.out _ Tryd.underlying23 rfl sizeKey HA.out rfl rfl hK'
    · obtain rfl := Option.some.inj ho
      obtain ⟨vp, hvp, hsp⟩ := hI.have 0 _ 11 (.val (.agg (numsA .u8 la))) rfl rfl rfl (hdep ⟨0, .data⟩ (by simp) rfl)
      obtain rfl := hsp
      exact hI.stepCall (by kernel_rfl) hls rfl rfl rfl 9 #[.tmp 11] _ rfl #[.agg (numsA .u8 la)] (by simp [eval_of hvp]) enterrOf (.val (.agg (numN (keyNum la)))) rfl rfl ((rOf_any la _ (Hla.out) (Hda.out)).mono fun _ _ h => ⟨_, h.1, rfl, h.2⟩) hK'
    · obtain rfl := Option.some.inj ho
      exact hI.stepLoad (by kernel_rfl) hls rfl rfl rfl 23 3 rfl (by kernel_rfl) (w.heap.size + 1) 32 rfl 23 (numsA .u8 lb) Hkb.out _ Tryd.underlying23 rfl sizeKey HB.out rfl rfl hK'
    · obtain rfl := Option.some.inj ho
      obtain ⟨vp, hvp, hsp⟩ := hI.have 2 _ 13 (.val (.agg (numsA .u8 lb))) rfl rfl rfl (hdep ⟨2, .data⟩ (by simp) rfl)
      obtain rfl := hsp
      exact hI.stepCall (by kernel_rfl) hls rfl rfl rfl 9 #[.tmp 13] _ rfl #[.agg (numsA .u8 lb)] (by simp [eval_of hvp]) enterrOf (.val (.agg (numN (keyNum lb)))) rfl rfl ((rOf_any lb _ (Hlb.out) (Hdb.out)).mono fun _ _ h => ⟨_, h.1, rfl, h.2⟩) hK'
    · obtain rfl := Option.some.inj ho
      exact hI.stepAlloc (by kernel_rfl) hls (Nat.le_refl _) (newsB_spec (by kernel_rfl)) rfl rfl rfl 31 rfl zeroN zeroN_run rfl hK'
    · obtain rfl := Option.some.inj ho
      exact hI.stepAlloc (by kernel_rfl) hls (Nat.le_refl _) (newsB_spec (by kernel_rfl)) rfl rfl rfl 31 rfl zeroN zeroN_run rfl hK'
  · intro fuel an wn hf hI
    obtain ⟨v0, hv0, hs0⟩ := hI.have 0 _ 11 (.val (.agg (numsA .u8 la))) rfl rfl rfl rfl
    obtain rfl := hs0
    obtain ⟨v1, hv1, hs1⟩ := hI.have 1 _ 12 (.val (.agg (numN (keyNum la)))) rfl rfl rfl rfl
    obtain rfl := hs1
    obtain ⟨v2, hv2, hs2⟩ := hI.have 2 _ 13 (.val (.agg (numsA .u8 lb))) rfl rfl rfl rfl
    obtain rfl := hs2
    obtain ⟨v3, hv3, hs3⟩ := hI.have 3 _ 14 (.val (.agg (numN (keyNum lb)))) rfl rfl rfl rfl
    obtain rfl := hs3
    obtain ⟨v4, hv4, b4, rfl, hn4, hb4⟩ := hI.have 4 _ 5 (.new 31 zeroN) rfl rfl rfl rfl
    obtain ⟨v5, hv5, b5, rfl, hn5, hb5⟩ := hI.have 5 _ 6 (.new 31 zeroN) rfl rfl rfl rfl
    have hne4_5 : b4 ≠ b5 := fun e => hI.apart 4 5 _ _ 5 6 (by omega) rfl rfl rfl rfl rfl rfl rfl rfl (by rw [hv4, hv5, e])
    have hupd := hI.upd
    have ha := hI.act [(11, .agg (numsA .u8 la)), (12, .agg (numN (keyNum la))), (13, .agg (numsA .u8 lb)), (14, .agg (numN (keyNum lb))), (5, .pointer (some ⟨b4, 0, none⟩)), (6, .pointer (some ⟨b5, 0, none⟩))] (by simp [hv0, hv1, hv2, hv3, hv4, hv5]) (by kernel_rfl)
    clear hI hv0 hv1 hv2 hv3 hv4 hv5
    subst ha
    simp only [List.foldl_cons, List.foldl_nil, List.setIfInBounds_toArray, List.set_cons_zero, List.set_cons_succ]
    have hf0 : left #[true, true, true, true, true, true, false, false] 8 = 2 := by kernel_rfl
    have hf1 : left #[true, true, true, true, true, true, false, false] 8 ≤ fuel := hf
    obtain ⟨fu, rfl⟩ : ∃ fu, fuel = fu + 2 := ⟨fuel - 2, by omega⟩
    clear hf hf0 hf1
    refine wpAny_ready (rs := [6]) (by kernel_rfl) (by simp) (AllReady.cons rfl (fun K hK => ?_) AllReady.nil)
    refine step_storeBlk2 rfl 31 (.tmp 5) (.tmp 12) rfl b4 0 16 rfl (numN (keyNum la)) rfl 31 zeroN hb4 sizeNum (numN_size _) (by rw [zeroN_size]; omega) (numsA_one _ _) ?_
    intro ws0 hs0 hus0 _
    rw [splice_all _ _ 16 zeroN_size (numN_size _)] at hs0
    refine hK _ _ ?_
    clear hK K
    dsimp only [Act.put]
    have hb5_0 := hus0.blk hb5 (fun e => hne4_5 e.symm)
    have hw0 := hupd.step hus0 (fun i hi h => by have := hn4; simp only [World.size_drew] at *; omega)
    refine wpAny_ready (rs := [7]) (by kernel_rfl) (by simp) (AllReady.cons rfl (fun K hK => ?_) AllReady.nil)
    refine step_storeBlk2 rfl 31 (.tmp 6) (.tmp 14) rfl b5 0 16 rfl (numN (keyNum lb)) rfl 31 zeroN hb5_0 sizeNum (numN_size _) (by rw [zeroN_size]; omega) (numsA_one _ _) ?_
    intro ws1 hs1 hus1 _
    rw [splice_all _ _ 16 zeroN_size (numN_size _)] at hs1
    refine hK _ _ ?_
    clear hK K
    dsimp only [Act.put]
    have hb4_1 := hus1.blk hs0 (fun e => hne4_5 e)
    have hw1 := hw0.step hus1 (fun i hi h => by have := hn5; simp only [World.size_drew] at *; omega)
    refine wpAny_done (by kernel_rfl) ?_ _
    have HU3 := Lib.hid hb4_1
    have HV3 := Lib.hid hs1
    have Hu3 := Lib.hid (Hu1.out.drew.trans hw1)
    have Hka3 := Lib.hid (hw1.blk (show Blk _ _ _ _ from Hka.out) (fun h => h))
    have Hkb3 := Lib.hid (hw1.blk (show Blk _ _ _ _ from Hkb.out) (fun h => h))
    generalize b4 = bU at *
    generalize b5 = bV at *
    clear hupd hb4 hb5 hn4 hn5 hne4_5 hs0 hs1 hus0 hus1 hw0 hw1 hb5_0 hb4_1 Hka Hkb Hu1
    generalize ws1 = w3 at *
    go_wp2
    go_cut [7, 8] (fun s7 s8 wx => ∃ (bX : Nat) (x0 x1 x2 x3 x4 : Int), s7 = .pointer (some ⟨bX, 0, none⟩) ∧ s8 = .bool (rootB (keyNum la) (keyNum lb)) ∧ Fits x0 x1 x2 x3 x4 (rootV (keyNum la) (keyNum lb)) ∧ Blk wx bX 28 #[.int .u64 x0, .int .u64 x1, .int .u64 x2, .int .u64 x3, .int .u64 x4] ∧ Upd (fun _ => False) w3 wx)
    case first =>
      refine wp_region_float #[true, true, true, true, true, true, true, true, true, false, false] 7 ([.val (.agg (numsA .u8 la)), .elem (keyNum la), .val (.agg (numsA .u8 lb)), .elem (keyNum lb), .like (LikeRoot (keyNum la) (keyNum lb)), .like (LikeRoot (keyNum la) (keyNum lb)), .elem (rootV (keyNum la) (keyNum lb)), .val (.bool (rootB (keyNum la) (keyNum lb))), .new 28 #[.int .u64 0, .int .u64 0, .int .u64 0, .int .u64 0, .int .u64 0]] : List SP) (by kernel_rfl) (by kernel_rfl) (by kernel_rfl) ?_ ?_ ?_
      · intro i o listed an wn ho hls hst hun hdep hI K' hK'
        have hi : i < 9 := by
          rcases Nat.lt_or_ge i 9 with h | h
          · exact h
          · exfalso
            have hq : i = 9 ∨ i = 10 ∨ 11 ≤ i := by omega
            rcases hq with rfl | rfl | h2
            · cases hst
            · cases hst
            · have := idx_lt ho; simp at this; omega
        have hcase : i = 0 ∨ i = 1 ∨ i = 2 ∨ i = 3 ∨ i = 4 ∨ i = 5 ∨ i = 6 ∨ i = 7 ∨ i = 8 := by omega
        rcases hcase with rfl | rfl | rfl | rfl | rfl | rfl | rfl | rfl | rfl
        · obtain rfl := Option.some.inj ho
          exact hI.stepLoad (by kernel_rfl) hls rfl rfl rfl 23 2 rfl (by kernel_rfl) (w.heap.size) 32 rfl 23 (numsA .u8 la) Hka3.out _ Tryd.underlying23 rfl sizeKey HA.out rfl rfl hK'
        · obtain rfl := Option.some.inj ho
          obtain ⟨vp, hvp, hsp⟩ := hI.have 0 _ 16 (.val (.agg (numsA .u8 la))) rfl rfl rfl (hdep ⟨0, .data⟩ (by simp) rfl)
          obtain rfl := hsp
          exact hI.stepCall (by kernel_rfl) hls rfl rfl rfl 8 #[.tmp 16] _ rfl #[.agg (numsA .u8 la)] (by simp [eval_of hvp]) enterOf (.elem (keyNum la)) rfl rfl ((of_any la _ (Hla.out) (Hda.out)).mono fun _ _ h => h.sp) hK'
        · obtain rfl := Option.some.inj ho
          exact hI.stepLoad (by kernel_rfl) hls rfl rfl rfl 23 3 rfl (by kernel_rfl) (w.heap.size + 1) 32 rfl 23 (numsA .u8 lb) Hkb3.out _ Tryd.underlying23 rfl sizeKey HB.out rfl rfl hK'
        · obtain rfl := Option.some.inj ho
          obtain ⟨vp, hvp, hsp⟩ := hI.have 2 _ 18 (.val (.agg (numsA .u8 lb))) rfl rfl rfl (hdep ⟨2, .data⟩ (by simp) rfl)
          obtain rfl := hsp
          exact hI.stepCall (by kernel_rfl) hls rfl rfl rfl 8 #[.tmp 18] _ rfl #[.agg (numsA .u8 lb)] (by simp [eval_of hvp]) enterOf (.elem (keyNum lb)) rfl rfl ((of_any lb _ (Hlb.out) (Hdb.out)).mono fun _ _ h => h.sp) hK'
        · obtain rfl := Option.some.inj ho
          obtain ⟨vp, hvp, p0, p1, p2, p3, p4, rfl, hFp⟩ := hI.have 1 _ 17 (.elem (keyNum la)) rfl rfl rfl (hdep ⟨1, .data⟩ (by simp) rfl)
          obtain ⟨vq, hvq, q0, q1, q2, q3, q4, rfl, hFq⟩ := hI.have 3 _ 19 (.elem (keyNum lb)) rfl rfl rfl (hdep ⟨3, .data⟩ (by simp) rfl)
          exact hI.stepCall (by kernel_rfl) hls rfl rfl rfl 20 #[.tmp 17, .tmp 19] _ rfl #[.agg #[.int .u64 p0, .int .u64 p1, .int .u64 p2, .int .u64 p3, .int .u64 p4], .agg #[.int .u64 q0, .int .u64 q1, .int .u64 q2, .int .u64 q3, .int .u64 q4]] (by simp [eval_of hvp, eval_of hvq]) enterRoot (.like (LikeRoot (keyNum la) (keyNum lb))) rfl rfl ((root_any p0 p1 p2 p3 p4 q0 q1 q2 q3 q4 (keyNum la) (keyNum lb) _ (HT.out.upd (Hu3.out.drew.trans hI.upd)) hFp hFq).mono fun _ _ h => h.sp) hK'
        · obtain rfl := Option.some.inj ho
          obtain ⟨vp, hvp, r0, r1, r2, r3, r4, rfl, hF⟩ := hI.have 4 _ 20 (.like (LikeRoot (keyNum la) (keyNum lb))) rfl rfl rfl (hdep ⟨4, .data⟩ (by simp) rfl)
          exact hI.stepPure2 (by kernel_rfl) hls rfl rfl rfl _ (by simp [execOp, eval_of hvp]) (.like (LikeRoot (keyNum la) (keyNum lb))) rfl ⟨r0, r1, r2, r3, r4, rfl, hF⟩ rfl hK'
        · obtain rfl := Option.some.inj ho
          obtain ⟨vp, hvp, r0, r1, r2, r3, r4, rfl, hF⟩ := hI.have 5 _ 15 (.like (LikeRoot (keyNum la) (keyNum lb))) rfl rfl rfl (hdep ⟨5, .data⟩ (by simp) rfl)
          exact hI.stepPure2 (by kernel_rfl) hls rfl rfl rfl _ (run_extract rfl (eval_of hvp) rfl wn) (.elem (rootV (keyNum la) (keyNum lb))) rfl ⟨r0, r1, r2, r3, r4, rfl, hF⟩ rfl hK'
        · obtain rfl := Option.some.inj ho
          obtain ⟨vp, hvp, r0, r1, r2, r3, r4, rfl, hF⟩ := hI.have 5 _ 15 (.like (LikeRoot (keyNum la) (keyNum lb))) rfl rfl rfl (hdep ⟨5, .data⟩ (by simp) rfl)
          exact hI.stepPure (by kernel_rfl) hls rfl rfl rfl (.bool (rootB (keyNum la) (keyNum lb))) (run_extract rfl (eval_of hvp) rfl wn) rfl rfl hK'
        · obtain rfl := Option.some.inj ho
          exact hI.stepAlloc (by kernel_rfl) hls (Nat.le_refl _) (newsB_spec (by kernel_rfl)) rfl rfl rfl 28 rfl #[.int .u64 0, .int .u64 0, .int .u64 0, .int .u64 0, .int .u64 0] zeroE_run rfl hK'
      · intro fuel an wn hf hI
        obtain ⟨v0, hv0, hs0⟩ := hI.have 0 _ 16 (.val (.agg (numsA .u8 la))) rfl rfl rfl rfl
        obtain rfl := hs0
        obtain ⟨v1, hv1, e1_0, e1_1, e1_2, e1_3, e1_4, rfl, hF1⟩ := hI.have 1 _ 17 (.elem (keyNum la)) rfl rfl rfl rfl
        obtain ⟨v2, hv2, hs2⟩ := hI.have 2 _ 18 (.val (.agg (numsA .u8 lb))) rfl rfl rfl rfl
        obtain rfl := hs2
        obtain ⟨v3, hv3, e3_0, e3_1, e3_2, e3_3, e3_4, rfl, hF3⟩ := hI.have 3 _ 19 (.elem (keyNum lb)) rfl rfl rfl rfl
        obtain ⟨v4, hv4, e4_0, e4_1, e4_2, e4_3, e4_4, rfl, -⟩ := hI.have 4 _ 20 (.like (LikeRoot (keyNum la) (keyNum lb))) rfl rfl rfl rfl
        obtain ⟨v5, hv5, e5_0, e5_1, e5_2, e5_3, e5_4, rfl, -⟩ := hI.have 5 _ 15 (.like (LikeRoot (keyNum la) (keyNum lb))) rfl rfl rfl rfl
        obtain ⟨v6, hv6, e6_0, e6_1, e6_2, e6_3, e6_4, rfl, hF6⟩ := hI.have 6 _ 21 (.elem (rootV (keyNum la) (keyNum lb))) rfl rfl rfl rfl
        obtain ⟨v7, hv7, hs7⟩ := hI.have 7 _ 22 (.val (.bool (rootB (keyNum la) (keyNum lb)))) rfl rfl rfl rfl
        obtain rfl := hs7
        obtain ⟨v8, hv8, b8, rfl, hn8, hb8⟩ := hI.have 8 _ 7 (.new 28 #[.int .u64 0, .int .u64 0, .int .u64 0, .int .u64 0, .int .u64 0]) rfl rfl rfl rfl
        have hupd := hI.upd
        have ha := hI.act [(16, .agg (numsA .u8 la)), (17, .agg #[.int .u64 e1_0, .int .u64 e1_1, .int .u64 e1_2, .int .u64 e1_3, .int .u64 e1_4]), (18, .agg (numsA .u8 lb)), (19, .agg #[.int .u64 e3_0, .int .u64 e3_1, .int .u64 e3_2, .int .u64 e3_3, .int .u64 e3_4]), (20, .tuple #[.agg #[.int .u64 e4_0, .int .u64 e4_1, .int .u64 e4_2, .int .u64 e4_3, .int .u64 e4_4], .bool (rootB (keyNum la) (keyNum lb))]), (15, .tuple #[.agg #[.int .u64 e5_0, .int .u64 e5_1, .int .u64 e5_2, .int .u64 e5_3, .int .u64 e5_4], .bool (rootB (keyNum la) (keyNum lb))]), (21, .agg #[.int .u64 e6_0, .int .u64 e6_1, .int .u64 e6_2, .int .u64 e6_3, .int .u64 e6_4]), (22, .bool (rootB (keyNum la) (keyNum lb))), (7, .pointer (some ⟨b8, 0, none⟩))] (by simp [hv0, hv1, hv2, hv3, hv4, hv5, hv6, hv7, hv8]) (by kernel_rfl)
        clear hI hv0 hv1 hv2 hv3 hv4 hv5 hv6 hv7 hv8
        subst ha
        simp only [List.foldl_cons, List.foldl_nil, List.setIfInBounds_toArray, List.set_cons_zero, List.set_cons_succ]
        have hf0 : left #[true, true, true, true, true, true, true, true, true, false, false] 11 = 2 := by kernel_rfl
        have hf1 : left #[true, true, true, true, true, true, true, true, true, false, false] 11 ≤ fuel := hf
        obtain ⟨fu, rfl⟩ : ∃ fu, fuel = fu + 2 := ⟨fuel - 2, by omega⟩
        clear hf hf0 hf1
        refine wpAny_ready (rs := [9]) (by kernel_rfl) (by simp) (AllReady.cons rfl (fun K hK => ?_) AllReady.nil)
        refine step_storeBlk2 rfl 28 (.tmp 7) (.tmp 21) rfl b8 0 5 rfl #[.int .u64 e6_0, .int .u64 e6_1, .int .u64 e6_2, .int .u64 e6_3, .int .u64 e6_4] rfl 28 #[.int .u64 0, .int .u64 0, .int .u64 0, .int .u64 0, .int .u64 0] hb8 info28 rfl (by simp) (one5 _ _ _ _ _) ?_
        intro ws0 hs0 hus0 _
        rw [splice_all _ _ 5 rfl rfl] at hs0
        refine hK _ _ ?_
        clear hK K
        dsimp only [Act.put]
        have hw0 := hupd.step hus0 (fun i hi h => by have := hn8; simp only [World.size_drew] at *; omega)
        refine wpAny_ready (rs := [10]) (by kernel_rfl) (by simp) (AllReady.cons rfl (fun K hK => ?_) AllReady.nil)
        refine step_pure rfl 8 rfl (.bool (rootB (keyNum la) (keyNum lb))) (by first | rfl | simp [execOp, Act.eval]) ?_
        refine hK _ _ ?_
        clear hK K
        try dsimp only
        simp only [List.setIfInBounds_toArray, List.set_cons_zero, List.set_cons_succ]
        refine wpAny_done (by kernel_rfl) ?_ _
        go_wp2_with fail
        go_meet
        exact ⟨b8, _, _, _, _, _, rfl, rfl, hF6, hs0, (Upd.refl (fun _ => False) w3).drew.trans hw0⟩
      · intro hA fuel an wn hf hI
        have hsz7 : (#[true, true, true, true, true, true, true, true, true, false, false] : Array Bool).setIfInBounds 7 false = #[true, true, true, true, true, true, true, false, true, false, false] := by decide
        rw [hsz7] at hf hI ⊢
        have hf0 : left #[true, true, true, true, true, true, true, false, true, false, false] 11 = 3 := by kernel_rfl
        have hf1 : left #[true, true, true, true, true, true, true, false, true, false, false] 11 ≤ fuel := hf
        obtain ⟨fu, rfl⟩ : ∃ fu, fuel = fu + 3 := ⟨fuel - 3, by omega⟩
        clear hf hf0 hf1
        refine wpAny_ready (rs := [7, 9]) (by kernel_rfl) (by simp) (AllReady.cons rfl (fun K hK => ?_) (AllReady.cons rfl (fun K hK => ?_) AllReady.nil))
        · obtain ⟨vp, hvp, r0, r1, r2, r3, r4, rfl, hF⟩ := hI.have 5 _ 15 (.like (LikeRoot (keyNum la) (keyNum lb))) rfl rfl rfl rfl
          exact hI.stepPure (i := 7) (by kernel_rfl) rfl rfl rfl rfl (.bool (rootB (keyNum la) (keyNum lb))) (run_extract rfl (eval_of hvp) rfl wn) rfl rfl (fun a' w' hS => hK a' w' (hA _ a' w' (by have : left #[true, true, true, true, true, true, true, true, true, false, false] 11 = 2 := (by kernel_rfl); show left #[true, true, true, true, true, true, true, true, true, false, false] 11 ≤ _; omega) hS))
        · obtain ⟨v0, hv0, hs0⟩ := hI.have 0 _ 16 (.val (.agg (numsA .u8 la))) rfl rfl rfl rfl
          obtain rfl := hs0
          obtain ⟨v1, hv1, e1_0, e1_1, e1_2, e1_3, e1_4, rfl, hF1⟩ := hI.have 1 _ 17 (.elem (keyNum la)) rfl rfl rfl rfl
          obtain ⟨v2, hv2, hs2⟩ := hI.have 2 _ 18 (.val (.agg (numsA .u8 lb))) rfl rfl rfl rfl
          obtain rfl := hs2
          obtain ⟨v3, hv3, e3_0, e3_1, e3_2, e3_3, e3_4, rfl, hF3⟩ := hI.have 3 _ 19 (.elem (keyNum lb)) rfl rfl rfl rfl
          obtain ⟨v4, hv4, e4_0, e4_1, e4_2, e4_3, e4_4, rfl, -⟩ := hI.have 4 _ 20 (.like (LikeRoot (keyNum la) (keyNum lb))) rfl rfl rfl rfl
          obtain ⟨v5, hv5, e5_0, e5_1, e5_2, e5_3, e5_4, rfl, -⟩ := hI.have 5 _ 15 (.like (LikeRoot (keyNum la) (keyNum lb))) rfl rfl rfl rfl
          obtain ⟨v6, hv6, e6_0, e6_1, e6_2, e6_3, e6_4, rfl, hF6⟩ := hI.have 6 _ 21 (.elem (rootV (keyNum la) (keyNum lb))) rfl rfl rfl rfl
          obtain ⟨v8, hv8, b8, rfl, hn8, hb8⟩ := hI.have 8 _ 7 (.new 28 #[.int .u64 0, .int .u64 0, .int .u64 0, .int .u64 0, .int .u64 0]) rfl rfl rfl rfl
          have hupd := hI.upd
          have ha := hI.act [(16, .agg (numsA .u8 la)), (17, .agg #[.int .u64 e1_0, .int .u64 e1_1, .int .u64 e1_2, .int .u64 e1_3, .int .u64 e1_4]), (18, .agg (numsA .u8 lb)), (19, .agg #[.int .u64 e3_0, .int .u64 e3_1, .int .u64 e3_2, .int .u64 e3_3, .int .u64 e3_4]), (20, .tuple #[.agg #[.int .u64 e4_0, .int .u64 e4_1, .int .u64 e4_2, .int .u64 e4_3, .int .u64 e4_4], .bool (rootB (keyNum la) (keyNum lb))]), (15, .tuple #[.agg #[.int .u64 e5_0, .int .u64 e5_1, .int .u64 e5_2, .int .u64 e5_3, .int .u64 e5_4], .bool (rootB (keyNum la) (keyNum lb))]), (21, .agg #[.int .u64 e6_0, .int .u64 e6_1, .int .u64 e6_2, .int .u64 e6_3, .int .u64 e6_4]), (7, .pointer (some ⟨b8, 0, none⟩))] (by simp [hv0, hv1, hv2, hv3, hv4, hv5, hv6, hv8]) (by kernel_rfl)
          clear hI hv0 hv1 hv2 hv3 hv4 hv5 hv6 hv8
          simp only [List.foldl_cons, List.foldl_nil, List.setIfInBounds_toArray, List.set_cons_zero, List.set_cons_succ] at ha
          subst ha
          refine step_storeBlk2 rfl 28 (.tmp 7) (.tmp 21) rfl b8 0 5 rfl #[.int .u64 e6_0, .int .u64 e6_1, .int .u64 e6_2, .int .u64 e6_3, .int .u64 e6_4] rfl 28 #[.int .u64 0, .int .u64 0, .int .u64 0, .int .u64 0, .int .u64 0] hb8 info28 rfl (by simp) (one5 _ _ _ _ _) ?_
          intro ws0 hs0 hus0 _
          rw [splice_all _ _ 5 rfl rfl] at hs0
          refine hK _ _ ?_
          clear hK K
          dsimp only [Act.put]
          have hw0 := hupd.step hus0 (fun i hi h => by have := hn8; simp only [World.size_drew] at *; omega)
          refine wpAny_ready (rs := [7]) (by kernel_rfl) (by simp) (AllReady.cons rfl (fun K hK => ?_) AllReady.nil)
          refine step_pure rfl 22 rfl (.bool (rootB (keyNum la) (keyNum lb))) (run_extract rfl rfl rfl _) ?_
          refine hK _ _ ?_
          clear hK K
          try dsimp only
          simp only [List.setIfInBounds_toArray, List.set_cons_zero, List.set_cons_succ]
          refine wpAny_ready (rs := [10]) (by kernel_rfl) (by simp) (AllReady.cons rfl (fun K hK => ?_) AllReady.nil)
          refine step_pure rfl 8 rfl (.bool (rootB (keyNum la) (keyNum lb))) (by first | rfl | simp [execOp, Act.eval]) ?_
          refine hK _ _ ?_
          clear hK K
          try dsimp only
          simp only [List.setIfInBounds_toArray, List.set_cons_zero, List.set_cons_succ]
          refine wpAny_done (by kernel_rfl) ?_ _
          go_wp2_with fail
          go_meet
          exact ⟨b8, _, _, _, _, _, rfl, rfl, hF6, hs0, (Upd.refl (fun _ => False) w3).drew.trans hw0⟩
    case rest =>
      obtain ⟨bX, x0, x1, x2, x3, x4, rfl, rfl, hF6, hb8, hup⟩ := hcut
      have Hx4 := Lib.hid hb8
      have HFx := Lib.hid hF6
      have Hu4 := Lib.hid (Hu3.out.trans hup)
      have HU4 := Lib.hid (hup.blk HU3.out (fun h => h))
      have HV4 := Lib.hid (hup.blk HV3.out (fun h => h))
      clear hup hF6 hb8 Hka3 Hkb3 HU3 HV3 Hu3
      have OA := Lib.hid (okKey la)
      have OB := Lib.hid (okKey lb)
      generalize keyNum la = na at *
      generalize keyNum lb = nb at *
      clear Hla Hda Hlb Hdb HA HB
      have HNu := Lib.hid (numN_size na)
      have HNv := Lib.hid (numN_size nb)
      go_wp2_with (refine wpList_loadBlk rfl 31 _ rfl bV 0 16 rfl 31 (numN nb) _ HV4.out Tryd.underlying31 rfl sizeNum (by rw [HNv.out]; omega) ?_; rw [extract_all _ _ HNv.out])
      refine (rCanon_ok nb nb _ OB.out).mono ?_
      rintro e w5 ⟨rfl, hu⟩
      have Hx5 := Lib.hid (hu.blk Hx4.out (fun h => h))
      have HU5 := Lib.hid (hu.blk HU4.out (fun h => h))
      have HV5 := Lib.hid (hu.blk HV4.out (fun h => h))
      have Hu5 := Lib.hid (Hu4.out.trans hu)
      clear hu Hx4 HU4 HV4 Hu4
      have hiz := isZeroN (nb % pp) (okMod_bd nb).1 (okMod_bd nb).2
      by_cases hv : nb % pp = 0
      · rw [decide_eq_true hv] at hiz
        obtain ⟨hrb, hrv⟩ := root_zero na nb hv
        have HRB := Lib.hid hrb
        have HRV := Lib.hid hrv
        clear hv hrb hrv
        generalize rootB na nb = rb at *
        go_wp2_with (refine wpList_loadBlk rfl 31 _ rfl bU 0 16 rfl 31 (numN na) _ HU5.out Tryd.underlying31 rfl sizeNum (by rw [HNu.out]; omega) ?_; rw [extract_all _ _ HNu.out])
        refine (rCanon_ok na na _ OA.out).mono ?_
        rintro e w6 ⟨rfl, hu⟩
        have Hx6 := Lib.hid (hu.blk Hx5.out (fun h => h))
        have Hu6 := Lib.hid (Hu5.out.trans hu)
        clear hu Hx5 HU5 HV5 Hu5 hiz
        have hiz := isZeroN (na % pp) (okMod_bd na).1 (okMod_bd na).2
        rw [← HRB.out] at hiz
        clear HRB
        obtain ⟨c0, c1, c2, c3, c4⟩ := cells5p Hx6.out
        have hbb : (rb == rb) = true := by simp
        go_wp2_with fail
        refine (isZero_any x0 x1 x2 x3 x4 _ _ HFx.out).mono ?_
        rintro e w7 ⟨he, hu⟩
        rw [decide_eq_true HRV.out] at he
        subst he
        go_wp2
        go_ret
        exact ⟨rfl, Hu6.out.trans hu⟩
      · rw [decide_eq_false hv] at hiz
        have HE := Lib.hid (rootB_euler na nb hv)
        clear hv
        go_wp2
        refine wp_region_slots #[true, true, true, true, true, true, true] ([.val (.bool (rootB na nb)), .val (.agg (numN na)), .val (.agg (numN nb)), .like (LikeN (nb ^ expInv)), .like (LikeN (na * (nb ^ expInv))), .val (.bool (eulerB (na * nb ^ expInv))), .val (.bool false)] : List SP) (by kernel_rfl) (by kernel_rfl) (by kernel_rfl) ?_ ?_
        · intro i o listed an wn ho hls hst hun hdep hI K' hK'
          have hi : i < 7 := by
            have := idx_lt ho; simp at this; omega
          have hcase : i = 0 ∨ i = 1 ∨ i = 2 ∨ i = 3 ∨ i = 4 ∨ i = 5 ∨ i = 6 := by omega
          rcases hcase with rfl | rfl | rfl | rfl | rfl | rfl | rfl
          · obtain rfl := Option.some.inj ho
            have hold := hI.old (t := 8) (by kernel_rfl) rfl
            exact hI.stepPure (by kernel_rfl) hls rfl rfl rfl (.bool (rootB na nb)) (by simp [execOp, hold]) rfl rfl hK'
          · obtain rfl := Option.some.inj ho
            exact hI.stepLoad (by kernel_rfl) hls rfl rfl rfl 31 5 rfl (by kernel_rfl) (bU) 16 rfl 31 (numN na) HU5.out _ Tryd.underlying31 rfl sizeNum (numN_size _) rfl rfl hK'
          · obtain rfl := Option.some.inj ho
            exact hI.stepLoad (by kernel_rfl) hls rfl rfl rfl 31 6 rfl (by kernel_rfl) (bV) 16 rfl 31 (numN nb) HV5.out _ Tryd.underlying31 rfl sizeNum (numN_size _) rfl rfl hK'
          · obtain rfl := Option.some.inj ho
            obtain ⟨vp, hvp, hsp⟩ := hI.have 2 _ 39 (.val (.agg (numN nb))) rfl rfl rfl (hdep ⟨2, .data⟩ (by simp) rfl)
            obtain rfl := hsp
            exact hI.stepCall (by kernel_rfl) hls rfl rfl rfl 25 #[.tmp 39] _ rfl #[.agg (numN nb)] (by simp [eval_of hvp]) enterrInvert (.like (LikeN (nb ^ expInv))) rfl rfl ((rInvert_any nb nb _ OB.out).mono fun _ _ h => h.sp) hK'
          · obtain rfl := Option.some.inj ho
            obtain ⟨vp, hvp, hsp⟩ := hI.have 1 _ 38 (.val (.agg (numN na))) rfl rfl rfl (hdep ⟨1, .data⟩ (by simp) rfl)
            obtain rfl := hsp
            obtain ⟨vq, hvq, rq, rfl, hNq⟩ := hI.have 3 _ 40 (.like (LikeN (nb ^ expInv))) rfl rfl rfl (hdep ⟨3, .data⟩ (by simp) rfl)
            exact hI.stepCall (by kernel_rfl) hls rfl rfl rfl 24 #[.tmp 38, .tmp 40] _ rfl #[.agg (numN na), .agg (numN rq)] (by simp [eval_of hvp, eval_of hvq]) enterrMul (.like (LikeN (na * (nb ^ expInv)))) rfl rfl ((rMul_any na rq na (nb ^ expInv) _ OA.out hNq).mono fun _ _ h => h.sp) hK'
          · obtain rfl := Option.some.inj ho
            obtain ⟨vp, hvp, rp, rfl, hNp⟩ := hI.have 4 _ 41 (.like (LikeN (na * (nb ^ expInv)))) rfl rfl rfl (hdep ⟨4, .data⟩ (by simp) rfl)
            exact hI.stepCall (by kernel_rfl) hls rfl rfl rfl 23 #[.tmp 41] _ rfl #[.agg (numN rp)] (by simp [eval_of hvp]) enterrSquare (.val (.bool (eulerB (na * nb ^ expInv)))) rfl rfl ((rSquare_any rp (na * nb ^ expInv) _ hNp).mono fun _ _ h => ⟨_, h.1, rfl, h.2⟩) hK'
          · obtain rfl := Option.some.inj ho
            obtain ⟨vp, hvp, hsp⟩ := hI.have 0 _ 37 (.val (.bool (rootB na nb))) rfl rfl rfl (hdep ⟨0, .data⟩ (by simp) rfl)
            obtain rfl := hsp
            obtain ⟨vq, hvq, hsq⟩ := hI.have 5 _ 42 (.val (.bool (eulerB (na * nb ^ expInv)))) rfl rfl rfl (hdep ⟨5, .data⟩ (by simp) rfl)
            obtain rfl := hsq
            exact hI.stepPure (by kernel_rfl) hls rfl rfl rfl (.bool false) (run_neqBool rfl (eval_of hvp) (eval_of hvq) HE.out wn) rfl rfl hK'
        · intro fuel an wn hf hI
          obtain ⟨vy0, hvy0, hsy0⟩ := hI.have 0 _ 37 (.val (.bool (rootB na nb))) rfl rfl rfl rfl
          obtain rfl := hsy0
          obtain ⟨vy1, hvy1, hsy1⟩ := hI.have 1 _ 38 (.val (.agg (numN na))) rfl rfl rfl rfl
          obtain rfl := hsy1
          obtain ⟨vy2, hvy2, hsy2⟩ := hI.have 2 _ 39 (.val (.agg (numN nb))) rfl rfl rfl rfl
          obtain rfl := hsy2
          obtain ⟨vy3, hvy3, ry3_, rfl, hNy3⟩ := hI.have 3 _ 40 (.like (LikeN (nb ^ expInv))) rfl rfl rfl rfl
          obtain ⟨vy4, hvy4, ry4_, rfl, hNy4⟩ := hI.have 4 _ 41 (.like (LikeN (na * (nb ^ expInv)))) rfl rfl rfl rfl
          obtain ⟨vy5, hvy5, hsy5⟩ := hI.have 5 _ 42 (.val (.bool (eulerB (na * nb ^ expInv)))) rfl rfl rfl rfl
          obtain rfl := hsy5
          obtain ⟨vy6, hvy6, hsy6⟩ := hI.have 6 _ 43 (.val (.bool false)) rfl rfl rfl rfl
          obtain rfl := hsy6
          have hupd := hI.upd
          have ha := hI.act [(37, .bool (rootB na nb)), (38, .agg (numN na)), (39, .agg (numN nb)), (40, .agg (numN ry3_)), (41, .agg (numN ry4_)), (42, .bool (eulerB (na * nb ^ expInv))), (43, .bool false)] (by simp [hvy0, hvy1, hvy2, hvy3, hvy4, hvy5, hvy6]) (by kernel_rfl)
          clear hI hvy0 hvy1 hvy2 hvy3 hvy4 hvy5 hvy6
          subst ha
          simp only [List.foldl_cons, List.foldl_nil, List.setIfInBounds_toArray, List.set_cons_zero, List.set_cons_succ]
          refine wpAny_done (by kernel_rfl) ?_ _
          have Hx8 := Lib.hid (hupd.blk (show Blk _ _ _ _ from Hx5.out) (fun h => h))
          have HU8 := Lib.hid (hupd.blk (show Blk _ _ _ _ from HU5.out) (fun h => h))
          have HV8 := Lib.hid (hupd.blk (show Blk _ _ _ _ from HV5.out) (fun h => h))
          have Hu8 := Lib.hid (Hu5.out.drew.trans hupd)
          clear hupd Hx5 HU5 HV5 Hu5 hNy3 hNy4 HE hiz
          have HEv := Lib.hid (rootV_even na nb)
          cases hrb : rootB na nb
          · have HRV := Lib.hid (rootV_none na nb hrb)
            clear hrb
            obtain ⟨c0, c1, c2, c3, c4⟩ := cells5p Hx8.out
            go_wp2_with fail
            refine (isZero_any x0 x1 x2 x3 x4 _ _ HFx.out).mono ?_
            rintro e w9 ⟨he, hu⟩
            rw [decide_eq_true (show rootV na nb % pp = 0 from by rw [HRV.out]; decide)] at he
            subst he
            go_wp2
            go_ret
            exact ⟨rfl, Hu8.out.trans hu⟩
          · have HRR := Lib.hid hrb
            clear hrb
            go_wp2
            refine wp_region_slots #[true, true, true, true, true, true, true, true, true, true, true, true] ([.val (.agg #[.int .u64 x0, .int .u64 x1, .int .u64 x2, .int .u64 x3, .int .u64 x4]), .val (.bool false), .val (.bool true), .val (.bool true), .val (.agg #[.int .u64 x0, .int .u64 x1, .int .u64 x2, .int .u64 x3, .int .u64 x4]), .val (.agg (numsA .u8 (digits 256 32 ((rootV na nb) % pp)))), .val (.agg (numN (keyNum (digits 256 32 ((rootV na nb) % pp))))), .val (.agg (numN na)), .val (.agg (numN nb)), .val (.bool true), .val (.bool true), .val (.bool true)] : List SP) (by kernel_rfl) (by kernel_rfl) (by kernel_rfl) ?_ ?_
            · intro i o listed an wn ho hls hst hun hdep hI K' hK'
              have hi : i < 12 := by
                have := idx_lt ho; simp at this; omega
              have hcase : i = 0 ∨ i = 1 ∨ i = 2 ∨ i = 3 ∨ i = 4 ∨ i = 5 ∨ i = 6 ∨ i = 7 ∨ i = 8 ∨ i = 9 ∨ i = 10 ∨ i = 11 := by omega
              rcases hcase with rfl | rfl | rfl | rfl | rfl | rfl | rfl | rfl | rfl | rfl | rfl | rfl
              · obtain rfl := Option.some.inj ho
                exact hI.stepLoad (by kernel_rfl) hls rfl rfl rfl 28 7 rfl (by kernel_rfl) (bX) 5 rfl 28 (#[.int .u64 x0, .int .u64 x1, .int .u64 x2, .int .u64 x3, .int .u64 x4]) Hx8.out _ Tryd.underlying28 rfl info28 rfl rfl rfl hK'
              · obtain rfl := Option.some.inj ho
                obtain ⟨vp, hvp, hsp⟩ := hI.have 0 _ 48 (.val (.agg #[.int .u64 x0, .int .u64 x1, .int .u64 x2, .int .u64 x3, .int .u64 x4])) rfl rfl rfl (hdep ⟨0, .data⟩ (by simp) rfl)
                obtain rfl := hsp
                exact hI.stepCall (by kernel_rfl) hls rfl rfl rfl 26 #[.tmp 48] _ rfl #[.agg #[.int .u64 x0, .int .u64 x1, .int .u64 x2, .int .u64 x3, .int .u64 x4]] (by simp [eval_of hvp]) enterOdd (.val (.bool false)) rfl rfl ((odd_any x0 x1 x2 x3 x4 (rootV na nb) _ HFx.out).mono fun _ _ h => ⟨_, h.1.trans (congrArg (fun b => Ending.returned (.bool b)) (decide_eq_false HEv.out)), rfl, h.2⟩) hK'
              · obtain rfl := Option.some.inj ho
                obtain ⟨vp, hvp, hsp⟩ := hI.have 1 _ 49 (.val (.bool false)) rfl rfl rfl (hdep ⟨1, .data⟩ (by simp) rfl)
                obtain rfl := hsp
                exact hI.stepPure (by kernel_rfl) hls rfl rfl rfl (.bool true) (run_not rfl (eval_of hvp) wn) rfl rfl hK'
              · obtain rfl := Option.some.inj ho
                obtain ⟨vp, hvp, hsp⟩ := hI.have 2 _ 50 (.val (.bool true)) rfl rfl rfl (hdep ⟨2, .data⟩ (by simp) rfl)
                obtain rfl := hsp
                exact hI.stepPure (by kernel_rfl) hls rfl rfl rfl (.bool true) (by simp [execOp, eval_of hvp]) rfl rfl hK'
              · obtain rfl := Option.some.inj ho
                obtain ⟨vg, hvg, hsg⟩ := hI.have 3 _ 51 (.val (.bool true)) rfl rfl rfl (hdep ⟨3, .guard⟩ (by simp) rfl)
                obtain rfl := hsg
                exact hI.stepLoad (by kernel_rfl) hls rfl (wanted_of rfl rfl rfl hvg) rfl 28 7 rfl (by kernel_rfl) (bX) 5 rfl 28 (#[.int .u64 x0, .int .u64 x1, .int .u64 x2, .int .u64 x3, .int .u64 x4]) Hx8.out _ Tryd.underlying28 rfl info28 rfl rfl rfl hK'
              · obtain rfl := Option.some.inj ho
                obtain ⟨vg, hvg, hsg⟩ := hI.have 3 _ 51 (.val (.bool true)) rfl rfl rfl (hdep ⟨3, .guard⟩ (by simp) rfl)
                obtain rfl := hsg
                obtain ⟨vp, hvp, hsp⟩ := hI.have 4 _ 52 (.val (.agg #[.int .u64 x0, .int .u64 x1, .int .u64 x2, .int .u64 x3, .int .u64 x4])) rfl rfl rfl (hdep ⟨4, .data⟩ (by simp) rfl)
                obtain rfl := hsp
                exact hI.stepCall (by kernel_rfl) hls rfl (wanted_of rfl rfl rfl hvg) rfl 11 #[.tmp 52] _ rfl #[.agg #[.int .u64 x0, .int .u64 x1, .int .u64 x2, .int .u64 x3, .int .u64 x4]] (by simp [eval_of hvp]) enterBytes (.val (.agg (numsA .u8 (digits 256 32 ((rootV na nb) % pp))))) rfl rfl ((bytes_any x0 x1 x2 x3 x4 (rootV na nb) _ HFx.out).mono fun _ _ h => ⟨_, h.1, rfl, h.2⟩) hK'
              · obtain rfl := Option.some.inj ho
                obtain ⟨vg, hvg, hsg⟩ := hI.have 3 _ 51 (.val (.bool true)) rfl rfl rfl (hdep ⟨3, .guard⟩ (by simp) rfl)
                obtain rfl := hsg
                obtain ⟨vp, hvp, hsp⟩ := hI.have 5 _ 53 (.val (.agg (numsA .u8 (digits 256 32 ((rootV na nb) % pp))))) rfl rfl rfl (hdep ⟨5, .data⟩ (by simp) rfl)
                obtain rfl := hsp
                exact hI.stepCall (by kernel_rfl) hls rfl (wanted_of rfl rfl rfl hvg) rfl 9 #[.tmp 53] _ rfl #[.agg (numsA .u8 (digits 256 32 ((rootV na nb) % pp)))] (by simp [eval_of hvp]) enterrOf (.val (.agg (numN (keyNum (digits 256 32 ((rootV na nb) % pp)))))) rfl rfl ((rOf_any (digits 256 32 ((rootV na nb) % pp)) _ (digits_length _ _ _) (digits_digs (by omega) _ _)).mono fun _ _ h => ⟨_, h.1, rfl, h.2⟩) hK'
              · obtain rfl := Option.some.inj ho
                obtain ⟨vg, hvg, hsg⟩ := hI.have 3 _ 51 (.val (.bool true)) rfl rfl rfl (hdep ⟨3, .guard⟩ (by simp) rfl)
                obtain rfl := hsg
                exact hI.stepLoad (by kernel_rfl) hls rfl (wanted_of rfl rfl rfl hvg) rfl 31 5 rfl (by kernel_rfl) (bU) 16 rfl 31 (numN na) HU8.out _ Tryd.underlying31 rfl sizeNum (numN_size _) rfl rfl hK'
              · obtain rfl := Option.some.inj ho
                obtain ⟨vg, hvg, hsg⟩ := hI.have 3 _ 51 (.val (.bool true)) rfl rfl rfl (hdep ⟨3, .guard⟩ (by simp) rfl)
                obtain rfl := hsg
                exact hI.stepLoad (by kernel_rfl) hls rfl (wanted_of rfl rfl rfl hvg) rfl 31 6 rfl (by kernel_rfl) (bV) 16 rfl 31 (numN nb) HV8.out _ Tryd.underlying31 rfl sizeNum (numN_size _) rfl rfl hK'
              · obtain rfl := Option.some.inj ho
                obtain ⟨vg, hvg, hsg⟩ := hI.have 3 _ 51 (.val (.bool true)) rfl rfl rfl (hdep ⟨3, .guard⟩ (by simp) rfl)
                obtain rfl := hsg
                obtain ⟨vp, hvp, hsp⟩ := hI.have 6 _ 54 (.val (.agg (numN (keyNum (digits 256 32 ((rootV na nb) % pp)))))) rfl rfl rfl (hdep ⟨6, .data⟩ (by simp) rfl)
                obtain rfl := hsp
                obtain ⟨vq, hvq, hsq⟩ := hI.have 7 _ 55 (.val (.agg (numN na))) rfl rfl rfl (hdep ⟨7, .data⟩ (by simp) rfl)
                obtain rfl := hsq
                obtain ⟨vr, hvr, hsr⟩ := hI.have 8 _ 56 (.val (.agg (numN nb))) rfl rfl rfl (hdep ⟨8, .data⟩ (by simp) rfl)
                obtain rfl := hsr
                exact hI.stepCall (by kernel_rfl) hls rfl (wanted_of rfl rfl rfl hvg) rfl 27 #[.tmp 54, .tmp 55, .tmp 56] _ rfl #[.agg (numN (keyNum (digits 256 32 ((rootV na nb) % pp)))), .agg (numN na), .agg (numN nb)] (by simp [eval_of hvp, eval_of hvq, eval_of hvr]) enterrIsRoot (.val (.bool true)) rfl rfl ((rIsRoot_any (keyNum (digits 256 32 ((rootV na nb) % pp))) na nb (keyNum (digits 256 32 ((rootV na nb) % pp))) na nb _ (okKey _) OA.out OB.out).mono fun _ _ h => ⟨_, h.1.trans (congrArg (fun b => Ending.returned (.bool b)) (dec_root HRR.out)), rfl, h.2⟩) hK'
              · obtain rfl := Option.some.inj ho
                obtain ⟨vp, hvp, hsp⟩ := hI.have 3 _ 51 (.val (.bool true)) rfl rfl rfl (hdep ⟨3, .data⟩ (by simp) rfl)
                obtain rfl := hsp
                obtain ⟨vq, hvq, hsq⟩ := hI.have 9 _ 57 (.val (.bool true)) rfl rfl rfl (hdep ⟨9, .data⟩ (by simp) rfl)
                obtain rfl := hsq
                exact hI.stepPure (by kernel_rfl) hls rfl rfl rfl (.bool true) (by simp [execOp, eval_of hvp, eval_of hvq, asBool]) rfl rfl hK'
              · obtain rfl := Option.some.inj ho
                obtain ⟨vp, hvp, hsp⟩ := hI.have 10 _ 58 (.val (.bool true)) rfl rfl rfl (hdep ⟨10, .data⟩ (by simp) rfl)
                obtain rfl := hsp
                exact hI.stepPure (by kernel_rfl) hls rfl rfl rfl (.bool true) (by simp [execOp, eval_of hvp]) rfl rfl hK'
            · intro fuel an wn hf hI
              obtain ⟨vz0, hvz0, hsz0⟩ := hI.have 0 _ 48 (.val (.agg #[.int .u64 x0, .int .u64 x1, .int .u64 x2, .int .u64 x3, .int .u64 x4])) rfl rfl rfl rfl
              obtain rfl := hsz0
              obtain ⟨vz1, hvz1, hsz1⟩ := hI.have 1 _ 49 (.val (.bool false)) rfl rfl rfl rfl
              obtain rfl := hsz1
              obtain ⟨vz2, hvz2, hsz2⟩ := hI.have 2 _ 50 (.val (.bool true)) rfl rfl rfl rfl
              obtain rfl := hsz2
              obtain ⟨vz3, hvz3, hsz3⟩ := hI.have 3 _ 51 (.val (.bool true)) rfl rfl rfl rfl
              obtain rfl := hsz3
              obtain ⟨vz4, hvz4, hsz4⟩ := hI.have 4 _ 52 (.val (.agg #[.int .u64 x0, .int .u64 x1, .int .u64 x2, .int .u64 x3, .int .u64 x4])) rfl rfl rfl rfl
              obtain rfl := hsz4
              obtain ⟨vz5, hvz5, hsz5⟩ := hI.have 5 _ 53 (.val (.agg (numsA .u8 (digits 256 32 ((rootV na nb) % pp))))) rfl rfl rfl rfl
              obtain rfl := hsz5
              obtain ⟨vz6, hvz6, hsz6⟩ := hI.have 6 _ 54 (.val (.agg (numN (keyNum (digits 256 32 ((rootV na nb) % pp)))))) rfl rfl rfl rfl
              obtain rfl := hsz6
              obtain ⟨vz7, hvz7, hsz7⟩ := hI.have 7 _ 55 (.val (.agg (numN na))) rfl rfl rfl rfl
              obtain rfl := hsz7
              obtain ⟨vz8, hvz8, hsz8⟩ := hI.have 8 _ 56 (.val (.agg (numN nb))) rfl rfl rfl rfl
              obtain rfl := hsz8
              obtain ⟨vz9, hvz9, hsz9⟩ := hI.have 9 _ 57 (.val (.bool true)) rfl rfl rfl rfl
              obtain rfl := hsz9
              obtain ⟨vz10, hvz10, hsz10⟩ := hI.have 10 _ 58 (.val (.bool true)) rfl rfl rfl rfl
              obtain rfl := hsz10
              obtain ⟨vz11, hvz11, hsz11⟩ := hI.have 11 _ 4 (.val (.bool true)) rfl rfl rfl rfl
              obtain rfl := hsz11
              have hupd := hI.upd
              have ha := hI.act [(48, .agg #[.int .u64 x0, .int .u64 x1, .int .u64 x2, .int .u64 x3, .int .u64 x4]), (49, .bool false), (50, .bool true), (51, .bool true), (52, .agg #[.int .u64 x0, .int .u64 x1, .int .u64 x2, .int .u64 x3, .int .u64 x4]), (53, .agg (numsA .u8 (digits 256 32 ((rootV na nb) % pp)))), (54, .agg (numN (keyNum (digits 256 32 ((rootV na nb) % pp))))), (55, .agg (numN na)), (56, .agg (numN nb)), (57, .bool true), (58, .bool true), (4, .bool true)] (by simp [hvz0, hvz1, hvz2, hvz3, hvz4, hvz5, hvz6, hvz7, hvz8, hvz9, hvz10, hvz11]) (by kernel_rfl)
              clear hI hvz0 hvz1 hvz2 hvz3 hvz4 hvz5 hvz6 hvz7 hvz8 hvz9 hvz10 hvz11
              subst ha
              simp only [List.foldl_cons, List.foldl_nil, List.setIfInBounds_toArray, List.set_cons_zero, List.set_cons_succ]
              refine wpAny_done (by kernel_rfl) ?_ _
              go_wp2
              go_ret
              exact ⟨rfl, Hu8.out.drew.trans hupd⟩
end Go.Proofs.YtpjkmocabnnhaaaDoor
