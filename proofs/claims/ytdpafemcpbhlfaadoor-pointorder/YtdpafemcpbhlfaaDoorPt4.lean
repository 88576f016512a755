/-
  Walks of point: Tiny, Add.
-/
import Derived.Test.YtdpafemcpbhlfaaDoorPtR
namespace Go.Proofs.YtdpafemcpbhlfaaDoor
set_option maxRecDepth 100000
open Go.RowKit

set_option maxHeartbeats 4000000 in
theorem tinyP {eP : EP} {a : Array Value} (w : World) (hT : Tw w) (ha : Ch 20 RP [some eP] a) :
    Calls Tryd.prog 38 #[.agg a] w fun e w' => e = .returned (.bool (edEq (eP.times (2 ^ 3)) EP.nil)) ∧ Upd (fun _ => False) w w' := by
  have HT := hh hT
  clear hT
  have HU := hh (Upd.refl (fun _ => False) w)
  go_enter Tryd.func38, Tryd.ntmps38
  refine wp_seq_k fun K0 hK0 => ?_
  refine wp_region_qSD 2 #[true, true] [] ([.blk ptrTo 41 (Ch 20 RP [some eP]), .val (.bool false)] : List SQ) (by kernel_rfl) (by kernel_rfl) (by kernel_rfl) (by kernel_rfl) ?_ ?_
  · intro i o listed an wn ho hls hst hun hdep hI hD hpre K' hK'
    rcases slot_cases (l := [0, 1]) rfl ho hst with rfl | rfl | ⟨⟨⟩⟩
    · obtain rfl := Option.some.inj ho
      have hvp : an.eval (.tmp 0) = .agg a := hI.oq (by kernel_rfl) rfl
      exact hI.newQ hD hls (Nat.le_refl _) (newsQ_spec (l := [0]) (by kernel_rfl) ⟨⟨_, _, rfl⟩, trivial⟩) rfl rfl rfl 41 a _ (run_boxQ rfl hvp wn) rfl ha hK'
    · obtain rfl := Option.some.inj ho
      exact hI.pq hD hls rfl rfl rfl _ (run_moveQ (.inr rfl) (show an.eval (.const (.bool false)) = .bool false from rfl) wn) (.val (.bool false)) rfl rfl rfl hK'
  intro an w1 hI
  obtain ⟨vr0_0, hvr0_0, br0_0, zr0_0, rfl, hnr0_0, hbr0_0, hzr0_0⟩ := hI.hq 0 _ 1 _ rfl rfl rfl rfl
  obtain ⟨vr0_1, hvr0_1, rfl⟩ := hI.hq 1 _ 2 _ rfl rfl rfl rfl
  have hupd := hI.upd
  have ha := hI.act [(1, ptrTo br0_0), (2, .bool false)] (by simp [hvr0_0, hvr0_1]) (by kernel_rfl)
  clear hI hvr0_0 hvr0_1
  subst ha
  simp only [List.foldl_cons, List.foldl_nil, List.setIfInBounds_toArray, List.set_cons_zero, List.set_cons_succ]
  have hger0_0 := geB HU hnr0_0
  have Bxr0y0 := hh hbr0_0
  have HU0 := hh (HU.out.trans hupd)
  clear hupd
  refine wpOps_nil ?_
  refine hK0 _ _ ?_
  clear hK0
  refine wp_seq_k fun K1 hK1 => ?_
  refine wp_seq_k fun K2 hK2 => ?_
  refine wp_region_qSD 1 #[true] [] ([.val (.int .i64 0)] : List SQ) (by kernel_rfl) (by kernel_rfl) (by kernel_rfl) (by kernel_rfl) ?_ ?_
  · intro i o listed an wn ho hls hst hun hdep hI hD hpre K' hK'
    rcases slot_cases (l := [0]) rfl ho hst with rfl | ⟨⟨⟩⟩
    · obtain rfl := Option.some.inj ho
      exact hI.pq hD hls rfl rfl rfl _ (run_moveQ (.inl rfl) (show an.eval (.const (.int .i64 0)) = .int .i64 0 from rfl) wn) (.val (.int .i64 0)) rfl rfl rfl hK'
  intro an w2 hI
  obtain ⟨vr1_0, hvr1_0, rfl⟩ := hI.hq 0 _ 3 _ rfl rfl rfl rfl
  have hupd := hI.upd
  have ha := hI.act [(3, .int .i64 0)] (by simp [hvr1_0]) (by kernel_rfl)
  clear hI hvr1_0
  subst ha
  simp only [List.foldl_cons, List.foldl_nil, List.setIfInBounds_toArray, List.set_cons_zero, List.set_cons_succ]
  have Bxr0y0_1 := hupd.keep Bxr0y0
  have HU1 := hh (HU0.out.trans hupd)
  clear hupd
  refine wpOps_nil ?_
  refine hK2 _ _ ?_
  clear hK2
  refine wp_block ?_
  refine wp_loop (fun a' w' => ∃ (k : Nat) (u3_4 u3_5 u3_6 u3_7 u3_8 : Value) (A3_1 : Array Value), k ≤ 3 ∧ a' = ⟨#[.agg a, ptrTo br0_0, .bool false, .int .i64 (k : Int), u3_4, u3_5, u3_6, u3_7, u3_8, undef, undef, undef], []⟩ ∧ Upd (fun _ => False) w w' ∧ Blk w' br0_0 41 A3_1 ∧ Ch 20 RP [some (eP.times (2 ^ k))] A3_1) (fun a' _ => (3) - (intOf (a'.tmps.getD 3 undef)).toNat) ?_ ?_
  · exact ⟨0, undef, undef, undef, undef, undef, zr0_0, Nat.zero_le _, rfl, HU1.out, Bxr0y0_1.out, hzr0_0.to (by rw [Nat.pow_zero, times_one])⟩
  rintro a' wl3 ⟨k, u3_4, u3_5, u3_6, u3_7, u3_8, A3_1, hk3, rfl, hul, hbl1, hcl1⟩
  have HUl3 := hh hul
  have Bxr0y0_l3 := hh hbl1
  clear hul hbl1
  by_cases hlt : k < 3
  · have Hlt3 := hh hlt
    refine wp_seq_k fun K4 hK4 => ?_
    have hq2_0 : decide ((((k : Int) : Int) < 3 : Prop)) = true := decide_eq_true (by omega)
    refine wp_region_qSD 1 #[true] [] ([.val (.bool true)] : List SQ) (by kernel_rfl) (by kernel_rfl) (by kernel_rfl) (by kernel_rfl) ?_ ?_
    · intro i o listed an wn ho hls hst hun hdep hI hD hpre K' hK'
      rcases slot_cases (l := [0]) rfl ho hst with rfl | ⟨⟨⟩⟩
      · obtain rfl := Option.some.inj ho
        have hvp : an.eval (.tmp 3) = .int .i64 (k : Int) := hI.oq (by kernel_rfl) rfl
        exact hI.pq hD hls rfl rfl rfl _ (run_lss rfl hvp rfl hq2_0 wn) (.val (.bool true)) rfl rfl rfl hK'
    intro an w3 hI
    obtain ⟨vr2_0, hvr2_0, rfl⟩ := hI.hq 0 _ 4 _ rfl rfl rfl rfl
    have hupd := hI.upd
    have ha := hI.act [(4, .bool true)] (by simp [hvr2_0]) (by kernel_rfl)
    clear hI hvr2_0
    subst ha
    simp only [List.foldl_cons, List.foldl_nil, List.setIfInBounds_toArray, List.set_cons_zero, List.set_cons_succ]
    have Bxr0y0_2 := hupd.keep Bxr0y0_l3
    have HU2 := hh (HUl3.out.trans hupd)
    clear hupd
    refine wpOps_nil ?_
    refine hK4 _ _ ?_
    clear hK4
    refine wp_seq_k fun K5 hK5 => ?_
    refine wp_cond_true rfl ?_
    refine wp_skip ?_
    refine hK5 _ _ ?_
    clear hK5
    refine wp_seq_k fun K6 hK6 => ?_
    refine wp_block ?_
    refine wp_region_qSD 3 #[true, true, true, false] [3] ([.val (.agg A3_1), .val (.agg A3_1), .like (IsC 20 RP [some ((eP.times (2 ^ k)).plus (eP.times (2 ^ k)))]), .val undef] : List SQ) (by kernel_rfl) (by kernel_rfl) (by kernel_rfl) (by kernel_rfl) ?_ ?_
    · intro i o listed an wn ho hls hst hun hdep hI hD hpre K' hK'
      rcases slot_cases (l := [0, 1, 2]) rfl ho hst with rfl | rfl | rfl | ⟨⟨⟩⟩
      · obtain rfl := Option.some.inj ho
        have hvp : an.eval (.tmp 1) = ptrTo br0_0 := hI.oq (by kernel_rfl) rfl
        exact hI.pq hD hls rfl rfl rfl _ (run_loadQ rfl hvp wn (hI.upd.keep Bxr0y0_2).out Tryd.underlying41 rfl szPt (by rw [hcl1.size]; exact Nat.le_of_ble_eq_true rfl)) (.val (.agg A3_1)) rfl (congrArg Value.agg (extract_all _ 20 hcl1.size)) rfl hK'
      · obtain rfl := Option.some.inj ho
        have hvp : an.eval (.tmp 1) = ptrTo br0_0 := hI.oq (by kernel_rfl) rfl
        exact hI.pq hD hls rfl rfl rfl _ (run_loadQ rfl hvp wn (hI.upd.keep Bxr0y0_2).out Tryd.underlying41 rfl szPt (by rw [hcl1.size]; exact Nat.le_of_ble_eq_true rfl)) (.val (.agg A3_1)) rfl (congrArg Value.agg (extract_all _ 20 hcl1.size)) rfl hK'
      · obtain rfl := Option.some.inj ho
        obtain ⟨vp, hvp, rfl⟩ := hI.hq 0 _ 5 _ rfl rfl rfl (dp hdep 0 rfl rfl)
        obtain ⟨vq, hvq, rfl⟩ := hI.hq 1 _ 6 _ rfl rfl rfl (dp hdep 1 rfl rfl)
        exact hI.cq hD hls rfl rfl rfl 70 #[.tmp 5, .tmp 6] _ rfl #[.agg A3_1, .agg A3_1] (by simp [eval_of hvp, eval_of hvq]) (run_enter Tryd.func70 (by kernel_rfl) (by kernel_rfl)) (.like (IsC 20 RP [some ((eP.times (2 ^ k)).plus (eP.times (2 ^ k)))])) rfl rfl ((togetherR _ (HT.out.upd (HU2.out.trans hI.upd)) hcl1 hcl1).mono fun _ _ h => h.sq) hK'
    intro an w4 hI
    obtain ⟨vr3_0, hvr3_0, rfl⟩ := hI.hq 0 _ 5 _ rfl rfl rfl rfl
    obtain ⟨vr3_1, hvr3_1, rfl⟩ := hI.hq 1 _ 6 _ rfl rfl rfl rfl
    obtain ⟨vr3_2, hvr3_2, ar3_2, rfl, hCr3_2⟩ := hI.hq 2 _ 7 _ rfl rfl rfl rfl
    have hupd := hI.upd
    have ha := hI.act [(5, .agg A3_1), (6, .agg A3_1), (7, .agg ar3_2)] (by simp [hvr3_0, hvr3_1, hvr3_2]) (by kernel_rfl)
    clear hI hvr3_0 hvr3_1 hvr3_2
    subst ha
    simp only [List.foldl_cons, List.foldl_nil, List.setIfInBounds_toArray, List.set_cons_zero, List.set_cons_succ]
    have Bxr0y0_3 := hupd.keep Bxr0y0_2
    have HU3 := hh (HU2.out.trans hupd)
    clear hupd
    refine wpOps_storeQ 3 rfl rfl rfl 41 (.tmp 1) (.tmp 7) rfl br0_0 0 20 rfl ar3_2 rfl 41 A3_1 Bxr0y0_3.out szPt hCr3_2.size (by rw [hcl1.size]; exact Nat.le_of_ble_eq_true rfl) hCr3_2.one' ?_
    intro ws3_0 hs3_0 hus3_0
    rw [splice_all _ _ 20 hcl1.size hCr3_2.size] at hs3_0
    have Bxr0y0_s3_0 := hh hs3_0
    have HU3_0 := hh (HU3.out.step hus3_0 (fun i hi h => absurd hi (Nat.not_lt.2 (h.symm ▸ hger0_0.out))))
    clear hs3_0 hus3_0
    refine wpOps_nil ?_
    refine hK6 _ _ ?_
    clear hK6
    have hq4_0 : IntKind.wrap .i64 ((k : Int) + 1) = (k : Int) + 1 := IntWalk.i64_in _ (by omega)
    refine wp_region_qSD 2 #[true, true] [] ([.val (.int .i64 ((k : Int) + 1)), .val (.int .i64 ((k : Int) + 1))] : List SQ) (by kernel_rfl) (by kernel_rfl) (by kernel_rfl) (by kernel_rfl) ?_ ?_
    · intro i o listed an wn ho hls hst hun hdep hI hD hpre K' hK'
      rcases slot_cases (l := [0, 1]) rfl ho hst with rfl | rfl | ⟨⟨⟩⟩
      · obtain rfl := Option.some.inj ho
        have hvp : an.eval (.tmp 3) = .int .i64 (k : Int) := hI.oldS hpre (by kernel_rfl) rfl
        exact hI.pq hD hls rfl rfl rfl _ (run_add rfl hvp rfl hq4_0 wn) (.val (.int .i64 ((k : Int) + 1))) rfl rfl rfl hK'
      · obtain rfl := Option.some.inj ho
        obtain ⟨vp, hvp, rfl⟩ := hI.hq 0 _ 8 _ rfl rfl rfl (dp hdep 0 rfl rfl)
        exact hI.pq hD hls rfl rfl rfl _ (run_moveQ (.inl rfl) (eval_of hvp) wn) (.val (.int .i64 ((k : Int) + 1))) rfl rfl rfl hK'
    intro an w5 hI
    obtain ⟨vr4_0, hvr4_0, rfl⟩ := hI.hq 0 _ 8 _ rfl rfl rfl rfl
    obtain ⟨vr4_1, hvr4_1, rfl⟩ := hI.hq 1 _ 3 _ rfl rfl rfl rfl
    have hupd := hI.upd
    have ha := hI.act [(8, .int .i64 ((k : Int) + 1)), (3, .int .i64 ((k : Int) + 1))] (by simp [hvr4_0, hvr4_1]) (by kernel_rfl)
    clear hI hvr4_0 hvr4_1
    subst ha
    simp only [List.foldl_cons, List.foldl_nil, List.setIfInBounds_toArray, List.set_cons_zero, List.set_cons_succ]
    have Bxr0y0_4 := hupd.keep Bxr0y0_s3_0
    have HU4 := hh (HU3_0.out.trans hupd)
    clear hupd
    refine wpOps_nil ?_
    exact ⟨⟨k + 1, _, _, _, _, _, _, Nat.succ_le_of_lt Hlt3.out, rfl, HU4.out, Bxr0y0_4.out, hCr3_2.to (by rw [Nat.pow_succ, Nat.mul_comm, Nat.two_mul, times_add])⟩, by show (3) - ((k : Int) + 1).toNat < (3) - (k : Int).toNat; have := Hlt3.out; omega⟩
  obtain rfl : k = 3 := by omega
  clear hlt
  refine wp_seq_k fun K7 hK7 => ?_
  have hq5_0 : decide (((((3 : Nat) : Int) : Int) < 3 : Prop)) = false := decide_eq_false (by omega)
  refine wp_region_qSD 1 #[true] [] ([.val (.bool false)] : List SQ) (by kernel_rfl) (by kernel_rfl) (by kernel_rfl) (by kernel_rfl) ?_ ?_
  · intro i o listed an wn ho hls hst hun hdep hI hD hpre K' hK'
    rcases slot_cases (l := [0]) rfl ho hst with rfl | ⟨⟨⟩⟩
    · obtain rfl := Option.some.inj ho
      have hvp : an.eval (.tmp 3) = .int .i64 ((3 : Nat) : Int) := hI.oq (by kernel_rfl) rfl
      exact hI.pq hD hls rfl rfl rfl _ (run_lss rfl hvp rfl hq5_0 wn) (.val (.bool false)) rfl rfl rfl hK'
  intro an w6 hI
  obtain ⟨vr5_0, hvr5_0, rfl⟩ := hI.hq 0 _ 4 _ rfl rfl rfl rfl
  have hupd := hI.upd
  have ha := hI.act [(4, .bool false)] (by simp [hvr5_0]) (by kernel_rfl)
  clear hI hvr5_0
  subst ha
  simp only [List.foldl_cons, List.foldl_nil, List.setIfInBounds_toArray, List.set_cons_zero, List.set_cons_succ]
  have Bxr0y0_5 := hupd.keep Bxr0y0_l3
  have HU5 := hh (HUl3.out.trans hupd)
  clear hupd
  refine wpOps_nil ?_
  refine hK7 _ _ ?_
  clear hK7
  refine wp_seq_k fun K8 hK8 => ?_
  refine wp_cond_false rfl ?_
  refine wp_exit_then ?_
  refine hK1 _ _ ?_
  clear hK1
  refine wp_seq_k fun K9 hK9 => ?_
  refine wp_region_qD #[true, true, true, true] ([.val (.agg A3_1), .like (IsC 20 RP [some EP.nil]), .val (.bool (edEq (eP.times (2 ^ 3)) EP.nil)), .val (.bool (edEq (eP.times (2 ^ 3)) EP.nil))] : List SQ) (by kernel_rfl) (by kernel_rfl) (by kernel_rfl) (by kernel_rfl) ?_ ?_
  · intro i o listed an wn ho hls hst hun hdep hI hD K' hK'
    rcases slot_cases (l := [0, 1, 2, 3]) rfl ho hst with rfl | rfl | rfl | rfl | ⟨⟨⟩⟩
    · obtain rfl := Option.some.inj ho
      have hvp : an.eval (.tmp 1) = ptrTo br0_0 := hI.oq (by kernel_rfl) rfl
      exact hI.pq hD hls rfl rfl rfl _ (run_loadQ rfl hvp wn (hI.upd.keepD Bxr0y0_5).out Tryd.underlying41 rfl szPt (by rw [hcl1.size]; exact Nat.le_of_ble_eq_true rfl)) (.val (.agg A3_1)) rfl (congrArg Value.agg (extract_all _ 20 hcl1.size)) rfl hK'
    · obtain rfl := Option.some.inj ho
      exact hI.cq hD hls rfl rfl rfl 33 #[] _ rfl #[] (by simp) (run_enter Tryd.func33 (by kernel_rfl) (by kernel_rfl)) (.like (IsC 20 RP [some EP.nil])) rfl rfl ((zeroR _ ).mono fun _ _ h => h.sq) hK'
    · obtain rfl := Option.some.inj ho
      obtain ⟨vp, hvp, rfl⟩ := hI.hq 0 _ 9 _ rfl rfl rfl (dp hdep 0 rfl rfl)
      obtain ⟨vq, hvq, aq, rfl, hCq⟩ := hI.hq 1 _ 10 _ rfl rfl rfl (dp hdep 1 rfl rfl)
      exact hI.cq hD hls rfl rfl rfl 31 #[.tmp 9, .tmp 10] _ rfl #[.agg A3_1, .agg aq] (by simp [eval_of hvp, eval_of hvq]) (run_enter Tryd.func31 (by kernel_rfl) (by kernel_rfl)) (.val (.bool (edEq (eP.times (2 ^ 3)) EP.nil))) rfl rfl ((equalR _ hcl1 hCq).mono fun _ _ h => ret_val h) hK'
    · obtain rfl := Option.some.inj ho
      obtain ⟨vp, hvp, rfl⟩ := hI.hq 2 _ 11 _ rfl rfl rfl (dp hdep 0 rfl rfl)
      exact hI.pq hD hls rfl rfl rfl _ (run_moveQ (.inr rfl) (eval_of hvp) wn) (.val (.bool (edEq (eP.times (2 ^ 3)) EP.nil))) rfl rfl rfl hK'
  intro fuel an w7 hf hI
  obtain ⟨vr6_0, hvr6_0, rfl⟩ := hI.hq 0 _ 9 _ rfl rfl rfl rfl
  obtain ⟨vr6_1, hvr6_1, ar6_1, rfl, hCr6_1⟩ := hI.hq 1 _ 10 _ rfl rfl rfl rfl
  obtain ⟨vr6_2, hvr6_2, rfl⟩ := hI.hq 2 _ 11 _ rfl rfl rfl rfl
  obtain ⟨vr6_3, hvr6_3, rfl⟩ := hI.hq 3 _ 2 _ rfl rfl rfl rfl
  have hupd := hI.upd
  have ha := hI.act [(9, .agg A3_1), (10, .agg ar6_1), (11, .bool (edEq (eP.times (2 ^ 3)) EP.nil)), (2, .bool (edEq (eP.times (2 ^ 3)) EP.nil))] (by simp [hvr6_0, hvr6_1, hvr6_2, hvr6_3]) (by kernel_rfl)
  clear hI hvr6_0 hvr6_1 hvr6_2 hvr6_3
  subst ha
  simp only [List.foldl_cons, List.foldl_nil, List.setIfInBounds_toArray, List.set_cons_zero, List.set_cons_succ]
  have Bxr0y0_6 := hupd.keepD Bxr0y0_5
  have HU6 := hh (HU5.out.drew.trans hupd)
  clear hupd
  refine wpAny_done (by kernel_rfl) ?_ _
  refine hK9 _ _ ?_
  clear hK9
  refine wp_ret ?_
  try dsimp only [Exit.then]
  try dsimp only [Exit.inBlock]
  exact bodyPost_ret (v := .bool (edEq (eP.times (2 ^ 3)) EP.nil)) (results_tmpQ (fn := Tryd.f38) (t := 2) rfl _ _ (.bool (edEq (eP.times (2 ^ 3)) EP.nil)) rfl) rfl ⟨rfl, HU6.out⟩
theorem tinyR {e : EP} {a : Array Value} (w : World) (hT : Tw w) (ha : Ch 20 RP [some e] a) : Calls Tryd.prog 38 #[.agg a] w fun r w' => r = .returned (.bool (edEq (e.times 8) EP.nil)) ∧ Upd (fun _ => False) w w' := tinyP w hT ha
theorem es_get {es : List EP} {k : Nat} (h : k < es.length) : (es.map some)[k]? = some (some (es.getD k EP.nil)) := by
  rw [List.getElem?_map, List.getElem?_eq_getElem h, List.getD_eq_getElem?_getD, List.getElem?_eq_getElem h]
  rfl
theorem es_room {es : List EP} {arr : Array Value} (hes : Ch 20 RP (es.map some) arr) {k : Nat} (h : k < es.length) : 20 * k + 20 ≤ arr.size := by
  rw [hes.size, List.length_map]
  omega
theorem es_step {es : List EP} {k : Nat} (h : k < es.length) : (es.take (k + 1)).foldl EP.plus EP.nil = ((es.take k).foldl EP.plus EP.nil).plus (es.getD k EP.nil) := by
  rw [List.take_add_one, List.getElem?_eq_getElem h, List.foldl_append, List.getD_eq_getElem?_getD, List.getElem?_eq_getElem h]
  rfl
set_option maxHeartbeats 4000000 in
theorem addP {es : List EP} {b : Nat} {arr : Array Value} (w : World) (hT : Tw w) (hB : Blk w b 41 arr) (hes : Ch 20 RP (es.map some) arr) (hlen : es.length < 1000) :
    Calls Tryd.prog 28 #[.slice (some ⟨b, 0, none⟩) es.length es.length] w (RetC 20 RP [some ((es.take es.length).foldl EP.plus EP.nil)] w) := by
  have HT := hh hT
  clear hT
  have HU := hh (Upd.refl (fun _ => False) w)
  have HBL := Lib.hid hB
  clear hB
  go_enter Tryd.func28, Tryd.ntmps28
  refine wp_seq_k fun K0 hK0 => ?_
  refine wp_region_qSD 1 #[true] [] ([.blk ptrTo 41 (Ch 20 RP [none])] : List SQ) (by kernel_rfl) (by kernel_rfl) (by kernel_rfl) (by kernel_rfl) ?_ ?_
  · intro i o listed an wn ho hls hst hun hdep hI hD hpre K' hK'
    rcases slot_cases (l := [0]) rfl ho hst with rfl | ⟨⟨⟩⟩
    · obtain rfl := Option.some.inj ho
      exact hI.newQ hD hls (Nat.le_refl _) (newsQ_spec (l := [0]) (by kernel_rfl) ⟨⟨_, _, rfl⟩, trivial⟩) rfl rfl rfl 41 zPt _ (run_allocQ rfl zPt_run wn) rfl zPt_p hK'
  intro an w1 hI
  obtain ⟨vr0_0, hvr0_0, br0_0, zr0_0, rfl, hnr0_0, hbr0_0, hzr0_0⟩ := hI.hq 0 _ 2 _ rfl rfl rfl rfl
  have hupd := hI.upd
  have ha := hI.act [(2, ptrTo br0_0)] (by simp [hvr0_0]) (by kernel_rfl)
  clear hI hvr0_0
  subst ha
  simp only [List.foldl_cons, List.foldl_nil, List.setIfInBounds_toArray, List.set_cons_zero, List.set_cons_succ]
  have hner0_0_HBL := apartB HBL hnr0_0
  have hger0_0 := geB HU hnr0_0
  have Barg_0 := hupd.keep HBL
  have Bxr0y0 := hh hbr0_0
  have HU0 := hh (HU.out.trans hupd)
  clear hupd
  refine wpOps_nil ?_
  refine hK0 _ _ ?_
  clear hK0
  refine wp_seq_k fun K1 hK1 => ?_
  refine wp_region_qSD 2 #[true, true, false] [2] ([.like (IsC 20 RP [some EP.nil]), .blk ptrTo 41 (Ch 20 RP [none]), .val undef] : List SQ) (by kernel_rfl) (by kernel_rfl) (by kernel_rfl) (by kernel_rfl) ?_ ?_
  · intro i o listed an wn ho hls hst hun hdep hI hD hpre K' hK'
    rcases slot_cases (l := [0, 1]) rfl ho hst with rfl | rfl | ⟨⟨⟩⟩
    · obtain rfl := Option.some.inj ho
      exact hI.cq hD hls rfl rfl rfl 33 #[] _ rfl #[] (by simp) (run_enter Tryd.func33 (by kernel_rfl) (by kernel_rfl)) (.like (IsC 20 RP [some EP.nil])) rfl rfl ((zeroR _ ).mono fun _ _ h => h.sq) hK'
    · obtain rfl := Option.some.inj ho
      exact hI.newQ hD hls (Nat.le_refl _) (newsQ_spec (l := [1]) (by kernel_rfl) ⟨⟨_, _, rfl⟩, trivial⟩) rfl rfl rfl 41 zPt _ (run_allocQ rfl zPt_run wn) rfl zPt_p hK'
  intro an w2 hI
  obtain ⟨vr1_0, hvr1_0, ar1_0, rfl, hCr1_0⟩ := hI.hq 0 _ 6 _ rfl rfl rfl rfl
  obtain ⟨vr1_1, hvr1_1, br1_1, zr1_1, rfl, hnr1_1, hbr1_1, hzr1_1⟩ := hI.hq 1 _ 3 _ rfl rfl rfl rfl
  have hupd := hI.upd
  have ha := hI.act [(6, .agg ar1_0), (3, ptrTo br1_1)] (by simp [hvr1_0, hvr1_1]) (by kernel_rfl)
  clear hI hvr1_0 hvr1_1
  subst ha
  simp only [List.foldl_cons, List.foldl_nil, List.setIfInBounds_toArray, List.set_cons_zero, List.set_cons_succ]
  have hner1_1_Barg_0 := apartB Barg_0 hnr1_1
  have hner1_1_Bxr0y0 := apartB Bxr0y0 hnr1_1
  have hger1_1 := geB HU0 hnr1_1
  have Barg_1 := hupd.keep Barg_0
  have Bxr0y0_1 := hupd.keep Bxr0y0
  have Bxr1y1 := hh hbr1_1
  have HU1 := hh (HU0.out.trans hupd)
  clear hupd
  refine wpOps_storeQ 2 rfl rfl rfl 41 (.tmp 3) (.tmp 6) rfl br1_1 0 20 rfl ar1_0 rfl 41 zr1_1 Bxr1y1.out szPt hCr1_0.size (by rw [hzr1_1.size]; exact Nat.le_of_ble_eq_true rfl) hCr1_0.one' ?_
  intro ws1_0 hs1_0 hus1_0
  rw [splice_all _ _ 20 hzr1_1.size hCr1_0.size] at hs1_0
  have Barg_s1_0 := hus1_0.keepS Barg_1 (fun e => hner1_1_Barg_0.out e.symm)
  have Bxr0y0_s1_0 := hus1_0.keepS Bxr0y0_1 (fun e => hner1_1_Bxr0y0.out e.symm)
  have Bxr1y1_s1_0 := hh hs1_0
  have HU1_0 := hh (HU1.out.step hus1_0 (fun i hi h => absurd hi (Nat.not_lt.2 (h.symm ▸ hger1_1.out))))
  clear hs1_0 hus1_0
  refine wpOps_nil ?_
  refine hK1 _ _ ?_
  clear hK1
  refine wp_seq_k fun K2 hK2 => ?_
  refine wp_seq_k fun K3 hK3 => ?_
  refine wp_region_qSD 3 #[true, true, true] [] ([.val (.slice (some ⟨b, 0, none⟩) es.length es.length), .val (.int .i64 (es.length : Int)), .val (.int .i64 0)] : List SQ) (by kernel_rfl) (by kernel_rfl) (by kernel_rfl) (by kernel_rfl) ?_ ?_
  · intro i o listed an wn ho hls hst hun hdep hI hD hpre K' hK'
    rcases slot_cases (l := [0, 1, 2]) rfl ho hst with rfl | rfl | rfl | ⟨⟨⟩⟩
    · obtain rfl := Option.some.inj ho
      have hvp : an.eval (.tmp 0) = .slice (some ⟨b, 0, none⟩) es.length es.length := hI.oq (by kernel_rfl) rfl
      exact hI.pq hD hls rfl rfl rfl _ (run_moveQ (.inl rfl) hvp wn) (.val (.slice (some ⟨b, 0, none⟩) es.length es.length)) rfl rfl rfl hK'
    · obtain rfl := Option.some.inj ho
      obtain ⟨vp, hvp, rfl⟩ := hI.hq 0 _ 7 _ rfl rfl rfl (dp hdep 0 rfl rfl)
      exact hI.pq hD hls rfl rfl rfl _ (run_lenS Tryd.underlying91 rfl (eval_of hvp) wn) (.val (.int .i64 (es.length : Int))) rfl rfl rfl hK'
    · obtain rfl := Option.some.inj ho
      exact hI.pq hD hls rfl rfl rfl _ (run_moveQ (.inl rfl) (show an.eval (.const (.int .i64 0)) = .int .i64 0 from rfl) wn) (.val (.int .i64 0)) rfl rfl rfl hK'
  intro an w3 hI
  obtain ⟨vr2_0, hvr2_0, rfl⟩ := hI.hq 0 _ 7 _ rfl rfl rfl rfl
  obtain ⟨vr2_1, hvr2_1, rfl⟩ := hI.hq 1 _ 8 _ rfl rfl rfl rfl
  obtain ⟨vr2_2, hvr2_2, rfl⟩ := hI.hq 2 _ 9 _ rfl rfl rfl rfl
  have hupd := hI.upd
  have ha := hI.act [(7, .slice (some ⟨b, 0, none⟩) es.length es.length), (8, .int .i64 (es.length : Int)), (9, .int .i64 0)] (by simp [hvr2_0, hvr2_1, hvr2_2]) (by kernel_rfl)
  clear hI hvr2_0 hvr2_1 hvr2_2
  subst ha
  simp only [List.foldl_cons, List.foldl_nil, List.setIfInBounds_toArray, List.set_cons_zero, List.set_cons_succ]
  have Barg_2 := hupd.keep Barg_s1_0
  have Bxr0y0_2 := hupd.keep Bxr0y0_s1_0
  have Bxr1y1_2 := hupd.keep Bxr1y1_s1_0
  have HU2 := hh (HU1_0.out.trans hupd)
  clear hupd
  refine wpOps_nil ?_
  refine hK3 _ _ ?_
  clear hK3
  refine wp_block ?_
  refine wp_loop (fun a' w' => ∃ (k : Nat) (u4_5 u4_10 u4_11 u4_12 u4_13 u4_14 u4_15 u4_16 : Value) (A4_3 : Array Value), k ≤ es.length ∧ a' = ⟨#[.slice (some ⟨b, 0, none⟩) es.length es.length, undef, ptrTo br0_0, ptrTo br1_1, undef, u4_5, .agg ar1_0, .slice (some ⟨b, 0, none⟩) es.length es.length, .int .i64 (es.length : Int), .int .i64 (k : Int), u4_10, u4_11, u4_12, u4_13, u4_14, u4_15, u4_16, undef], []⟩ ∧ Upd (fun _ => False) w w' ∧ Blk w' br1_1 41 A4_3 ∧ Ch 20 RP [some ((es.take k).foldl EP.plus EP.nil)] A4_3 ∧ Blk w' b 41 arr ∧ Blk w' br0_0 41 zr0_0) (fun a' _ => (es.length) - (intOf (a'.tmps.getD 9 undef)).toNat) ?_ ?_
  · exact ⟨0, undef, undef, undef, undef, undef, undef, undef, undef, ar1_0, Nat.zero_le _, rfl, HU2.out, Bxr1y1_2.out, hCr1_0.to (rfl), Barg_2.out, Bxr0y0_2.out⟩
  rintro a' wl4 ⟨k, u4_5, u4_10, u4_11, u4_12, u4_13, u4_14, u4_15, u4_16, A4_3, hk4, rfl, hul, hbl3, hcl3, hol0, hol1⟩
  have HUl4 := hh hul
  have Bxr1y1_l4 := hh hbl3
  have Barg_l4 := hh hol0
  have Bxr0y0_l4 := hh hol1
  clear hul hbl3 hol0 hol1
  by_cases hlt : k < es.length
  · have Hlt4 := hh hlt
    refine wp_seq_k fun K5 hK5 => ?_
    have hq3_0 : decide ((((k : Int) : Int) < (es.length : Int) : Prop)) = true := decide_eq_true (by omega)
    refine wp_region_qSD 1 #[true] [] ([.val (.bool true)] : List SQ) (by kernel_rfl) (by kernel_rfl) (by kernel_rfl) (by kernel_rfl) ?_ ?_
    · intro i o listed an wn ho hls hst hun hdep hI hD hpre K' hK'
      rcases slot_cases (l := [0]) rfl ho hst with rfl | ⟨⟨⟩⟩
      · obtain rfl := Option.some.inj ho
        have hvp : an.eval (.tmp 9) = .int .i64 (k : Int) := hI.oq (by kernel_rfl) rfl
        have hvq : an.eval (.tmp 8) = .int .i64 (es.length : Int) := hI.oq (by kernel_rfl) rfl
        exact hI.pq hD hls rfl rfl rfl _ (run_lss rfl hvp hvq hq3_0 wn) (.val (.bool true)) rfl rfl rfl hK'
    intro an w4 hI
    obtain ⟨vr3_0, hvr3_0, rfl⟩ := hI.hq 0 _ 10 _ rfl rfl rfl rfl
    have hupd := hI.upd
    have ha := hI.act [(10, .bool true)] (by simp [hvr3_0]) (by kernel_rfl)
    clear hI hvr3_0
    subst ha
    simp only [List.foldl_cons, List.foldl_nil, List.setIfInBounds_toArray, List.set_cons_zero, List.set_cons_succ]
    have Barg_3 := hupd.keep Barg_l4
    have Bxr0y0_3 := hupd.keep Bxr0y0_l4
    have Bxr1y1_3 := hupd.keep Bxr1y1_l4
    have HU3 := hh (HUl4.out.trans hupd)
    clear hupd
    refine wpOps_nil ?_
    refine hK5 _ _ ?_
    clear hK5
    refine wp_seq_k fun K6 hK6 => ?_
    refine wp_cond_true rfl ?_
    refine wp_skip ?_
    refine hK6 _ _ ?_
    clear hK6
    refine wp_seq_k fun K7 hK7 => ?_
    refine wp_block ?_
    refine wp_seq_k fun K8 hK8 => ?_
    refine wp_region_qSD 3 #[true, true, true, false] [3] ([.val (.pointer (some ⟨b, 20 * k, none⟩)), .val (.agg (arr.extract (20 * k) (20 * k + 20))), .blk ptrTo 41 (Ch 20 RP [none]), .val undef] : List SQ) (by kernel_rfl) (by kernel_rfl) (by kernel_rfl) (by kernel_rfl) ?_ ?_
    · intro i o listed an wn ho hls hst hun hdep hI hD hpre K' hK'
      rcases slot_cases (l := [0, 1, 2]) rfl ho hst with rfl | rfl | rfl | ⟨⟨⟩⟩
      · obtain rfl := Option.some.inj ho
        have hvp : an.eval (.tmp 7) = .slice (some ⟨b, 0, none⟩) es.length es.length := hI.oq (by kernel_rfl) rfl
        have hvq : an.eval (.tmp 9) = .int .i64 (k : Int) := hI.oq (by kernel_rfl) rfl
        exact hI.pq hD hls rfl rfl rfl _ (run_adrS (i := k) rfl Tryd.underlying91 szPt hvp hvq Hlt4.out wn) (.val (.pointer (some ⟨b, 20 * k, none⟩))) rfl rfl rfl hK'
      · obtain rfl := Option.some.inj ho
        obtain ⟨vp, hvp, rfl⟩ := hI.hq 0 _ 11 _ rfl rfl rfl (dp hdep 0 rfl rfl)
        exact hI.pq hD hls rfl rfl rfl _ (run_loadQ rfl (eval_of hvp) wn (hI.upd.keep Barg_3).out Tryd.underlying41 rfl szPt (es_room hes Hlt4.out)) (.val (.agg (arr.extract (20 * k) (20 * k + 20)))) rfl rfl rfl hK'
      · obtain rfl := Option.some.inj ho
        exact hI.newQ hD hls (Nat.le_refl _) (newsQ_spec (l := [2]) (by kernel_rfl) ⟨⟨_, _, rfl⟩, trivial⟩) rfl rfl rfl 41 zPt _ (run_allocQ rfl zPt_run wn) rfl zPt_p hK'
    intro an w5 hI
    obtain ⟨vr4_0, hvr4_0, rfl⟩ := hI.hq 0 _ 11 _ rfl rfl rfl rfl
    obtain ⟨vr4_1, hvr4_1, rfl⟩ := hI.hq 1 _ 12 _ rfl rfl rfl rfl
    obtain ⟨vr4_2, hvr4_2, br4_2, zr4_2, rfl, hnr4_2, hbr4_2, hzr4_2⟩ := hI.hq 2 _ 5 _ rfl rfl rfl rfl
    have hupd := hI.upd
    have ha := hI.act [(11, .pointer (some ⟨b, 20 * k, none⟩)), (12, .agg (arr.extract (20 * k) (20 * k + 20))), (5, ptrTo br4_2)] (by simp [hvr4_0, hvr4_1, hvr4_2]) (by kernel_rfl)
    clear hI hvr4_0 hvr4_1 hvr4_2
    subst ha
    simp only [List.foldl_cons, List.foldl_nil, List.setIfInBounds_toArray, List.set_cons_zero, List.set_cons_succ]
    have hner4_2_Barg_3 := apartB Barg_3 hnr4_2
    have hner4_2_Bxr0y0_3 := apartB Bxr0y0_3 hnr4_2
    have hner4_2_Bxr1y1_3 := apartB Bxr1y1_3 hnr4_2
    have hger4_2 := geB HU3 hnr4_2
    have Barg_4 := hupd.keep Barg_3
    have Bxr0y0_4 := hupd.keep Bxr0y0_3
    have Bxr1y1_4 := hupd.keep Bxr1y1_3
    have Bxr4y2 := hh hbr4_2
    have HU4 := hh (HU3.out.trans hupd)
    clear hupd
    refine wpOps_storeQ 3 rfl rfl rfl 41 (.tmp 5) (.tmp 12) rfl br4_2 0 20 rfl (arr.extract (20 * k) (20 * k + 20)) rfl 41 zr4_2 Bxr4y2.out szPt (hes.at k (20 * k) rfl (es_get Hlt4.out)).size (by rw [hzr4_2.size]; exact Nat.le_of_ble_eq_true rfl) (hes.at k (20 * k) rfl (es_get Hlt4.out)).one' ?_
    intro ws4_0 hs4_0 hus4_0
    rw [splice_all _ _ 20 hzr4_2.size (hes.at k (20 * k) rfl (es_get Hlt4.out)).size] at hs4_0
    have Barg_s4_0 := hus4_0.keepS Barg_4 (fun e => hner4_2_Barg_3.out e.symm)
    have Bxr0y0_s4_0 := hus4_0.keepS Bxr0y0_4 (fun e => hner4_2_Bxr0y0_3.out e.symm)
    have Bxr1y1_s4_0 := hus4_0.keepS Bxr1y1_4 (fun e => hner4_2_Bxr1y1_3.out e.symm)
    have Bxr4y2_s4_0 := hh hs4_0
    have HU4_0 := hh (HU4.out.step hus4_0 (fun i hi h => absurd hi (Nat.not_lt.2 (h.symm ▸ hger4_2.out))))
    clear hs4_0 hus4_0
    refine wpOps_nil ?_
    refine hK8 _ _ ?_
    clear hK8
    refine wp_region_qSD 3 #[true, true, true, false] [3] ([.val (.agg A4_3), .val (.agg (arr.extract (20 * k) (20 * k + 20))), .like (IsC 20 RP [some (((es.take k).foldl EP.plus EP.nil).plus (es.getD k EP.nil))]), .val undef] : List SQ) (by kernel_rfl) (by kernel_rfl) (by kernel_rfl) (by kernel_rfl) ?_ ?_
    · intro i o listed an wn ho hls hst hun hdep hI hD hpre K' hK'
      rcases slot_cases (l := [0, 1, 2]) rfl ho hst with rfl | rfl | rfl | ⟨⟨⟩⟩
      · obtain rfl := Option.some.inj ho
        have hvp : an.eval (.tmp 3) = ptrTo br1_1 := hI.oq (by kernel_rfl) rfl
        exact hI.pq hD hls rfl rfl rfl _ (run_loadQ rfl hvp wn (hI.upd.keep Bxr1y1_s4_0).out Tryd.underlying41 rfl szPt (by rw [hcl3.size]; exact Nat.le_of_ble_eq_true rfl)) (.val (.agg A4_3)) rfl (congrArg Value.agg (extract_all _ 20 hcl3.size)) rfl hK'
      · obtain rfl := Option.some.inj ho
        have hvp : an.eval (.tmp 5) = ptrTo br4_2 := hI.oq (by kernel_rfl) rfl
        exact hI.pq hD hls rfl rfl rfl _ (run_loadQ rfl hvp wn (hI.upd.keep Bxr4y2_s4_0).out Tryd.underlying41 rfl szPt (by rw [(hes.at k (20 * k) rfl (es_get Hlt4.out)).size]; exact Nat.le_of_ble_eq_true rfl)) (.val (.agg (arr.extract (20 * k) (20 * k + 20)))) rfl (congrArg Value.agg (extract_all _ 20 (hes.at k (20 * k) rfl (es_get Hlt4.out)).size)) rfl hK'
      · obtain rfl := Option.some.inj ho
        obtain ⟨vp, hvp, rfl⟩ := hI.hq 0 _ 13 _ rfl rfl rfl (dp hdep 0 rfl rfl)
        obtain ⟨vq, hvq, rfl⟩ := hI.hq 1 _ 14 _ rfl rfl rfl (dp hdep 1 rfl rfl)
        exact hI.cq hD hls rfl rfl rfl 70 #[.tmp 13, .tmp 14] _ rfl #[.agg A4_3, .agg (arr.extract (20 * k) (20 * k + 20))] (by simp [eval_of hvp, eval_of hvq]) (run_enter Tryd.func70 (by kernel_rfl) (by kernel_rfl)) (.like (IsC 20 RP [some (((es.take k).foldl EP.plus EP.nil).plus (es.getD k EP.nil))])) rfl rfl ((togetherR _ (HT.out.upd (HU4_0.out.trans hI.upd)) hcl3 (hes.at k (20 * k) rfl (es_get Hlt4.out))).mono fun _ _ h => h.sq) hK'
    intro an w6 hI
    obtain ⟨vr5_0, hvr5_0, rfl⟩ := hI.hq 0 _ 13 _ rfl rfl rfl rfl
    obtain ⟨vr5_1, hvr5_1, rfl⟩ := hI.hq 1 _ 14 _ rfl rfl rfl rfl
    obtain ⟨vr5_2, hvr5_2, ar5_2, rfl, hCr5_2⟩ := hI.hq 2 _ 15 _ rfl rfl rfl rfl
    have hupd := hI.upd
    have ha := hI.act [(13, .agg A4_3), (14, .agg (arr.extract (20 * k) (20 * k + 20))), (15, .agg ar5_2)] (by simp [hvr5_0, hvr5_1, hvr5_2]) (by kernel_rfl)
    clear hI hvr5_0 hvr5_1 hvr5_2
    subst ha
    simp only [List.foldl_cons, List.foldl_nil, List.setIfInBounds_toArray, List.set_cons_zero, List.set_cons_succ]
    have Barg_5 := hupd.keep Barg_s4_0
    have Bxr0y0_5 := hupd.keep Bxr0y0_s4_0
    have Bxr1y1_5 := hupd.keep Bxr1y1_s4_0
    have Bxr4y2_5 := hupd.keep Bxr4y2_s4_0
    have HU5 := hh (HU4_0.out.trans hupd)
    clear hupd
    refine wpOps_storeQ 3 rfl rfl rfl 41 (.tmp 3) (.tmp 15) rfl br1_1 0 20 rfl ar5_2 rfl 41 A4_3 Bxr1y1_5.out szPt hCr5_2.size (by rw [hcl3.size]; exact Nat.le_of_ble_eq_true rfl) hCr5_2.one' ?_
    intro ws5_0 hs5_0 hus5_0
    rw [splice_all _ _ 20 hcl3.size hCr5_2.size] at hs5_0
    have Barg_s5_0 := hus5_0.keepS Barg_5 (fun e => hner1_1_Barg_0.out e.symm)
    have Bxr0y0_s5_0 := hus5_0.keepS Bxr0y0_5 (fun e => hner1_1_Bxr0y0.out e.symm)
    have Bxr4y2_s5_0 := hus5_0.keepS Bxr4y2_5 (fun e => hner4_2_Bxr1y1_3.out e)
    have Bxr1y1_s5_0 := hh hs5_0
    have HU5_0 := hh (HU5.out.step hus5_0 (fun i hi h => absurd hi (Nat.not_lt.2 (h.symm ▸ hger1_1.out))))
    clear hs5_0 hus5_0
    refine wpOps_nil ?_
    refine hK7 _ _ ?_
    clear hK7
    have hq6_0 : IntKind.wrap .i64 ((k : Int) + 1) = (k : Int) + 1 := IntWalk.i64_in _ (by omega)
    refine wp_region_qSD 2 #[true, true] [] ([.val (.int .i64 ((k : Int) + 1)), .val (.int .i64 ((k : Int) + 1))] : List SQ) (by kernel_rfl) (by kernel_rfl) (by kernel_rfl) (by kernel_rfl) ?_ ?_
    · intro i o listed an wn ho hls hst hun hdep hI hD hpre K' hK'
      rcases slot_cases (l := [0, 1]) rfl ho hst with rfl | rfl | ⟨⟨⟩⟩
      · obtain rfl := Option.some.inj ho
        have hvp : an.eval (.tmp 9) = .int .i64 (k : Int) := hI.oldS hpre (by kernel_rfl) rfl
        exact hI.pq hD hls rfl rfl rfl _ (run_add rfl hvp rfl hq6_0 wn) (.val (.int .i64 ((k : Int) + 1))) rfl rfl rfl hK'
      · obtain rfl := Option.some.inj ho
        obtain ⟨vp, hvp, rfl⟩ := hI.hq 0 _ 16 _ rfl rfl rfl (dp hdep 0 rfl rfl)
        exact hI.pq hD hls rfl rfl rfl _ (run_moveQ (.inl rfl) (eval_of hvp) wn) (.val (.int .i64 ((k : Int) + 1))) rfl rfl rfl hK'
    intro an w7 hI
    obtain ⟨vr6_0, hvr6_0, rfl⟩ := hI.hq 0 _ 16 _ rfl rfl rfl rfl
    obtain ⟨vr6_1, hvr6_1, rfl⟩ := hI.hq 1 _ 9 _ rfl rfl rfl rfl
    have hupd := hI.upd
    have ha := hI.act [(16, .int .i64 ((k : Int) + 1)), (9, .int .i64 ((k : Int) + 1))] (by simp [hvr6_0, hvr6_1]) (by kernel_rfl)
    clear hI hvr6_0 hvr6_1
    subst ha
    simp only [List.foldl_cons, List.foldl_nil, List.setIfInBounds_toArray, List.set_cons_zero, List.set_cons_succ]
    have Barg_6 := hupd.keep Barg_s5_0
    have Bxr0y0_6 := hupd.keep Bxr0y0_s5_0
    have Bxr1y1_6 := hupd.keep Bxr1y1_s5_0
    have Bxr4y2_6 := hupd.keep Bxr4y2_s5_0
    have HU6 := hh (HU5_0.out.trans hupd)
    clear hupd
    refine wpOps_nil ?_
    exact ⟨⟨k + 1, _, _, _, _, _, _, _, _, _, Nat.succ_le_of_lt Hlt4.out, rfl, HU6.out, Bxr1y1_6.out, hCr5_2.to (by rw [es_step Hlt4.out]), Barg_6.out, Bxr0y0_6.out⟩, by show (es.length) - ((k : Int) + 1).toNat < (es.length) - (k : Int).toNat; have := Hlt4.out; omega⟩
  obtain rfl : k = es.length := by omega
  clear hlt
  refine wp_seq_k fun K9 hK9 => ?_
  have hq7_0 : decide (((((es.length : Nat) : Int) : Int) < (es.length : Int) : Prop)) = false := decide_eq_false (by omega)
  refine wp_region_qSD 1 #[true] [] ([.val (.bool false)] : List SQ) (by kernel_rfl) (by kernel_rfl) (by kernel_rfl) (by kernel_rfl) ?_ ?_
  · intro i o listed an wn ho hls hst hun hdep hI hD hpre K' hK'
    rcases slot_cases (l := [0]) rfl ho hst with rfl | ⟨⟨⟩⟩
    · obtain rfl := Option.some.inj ho
      have hvp : an.eval (.tmp 9) = .int .i64 ((es.length : Nat) : Int) := hI.oq (by kernel_rfl) rfl
      have hvq : an.eval (.tmp 8) = .int .i64 (es.length : Int) := hI.oq (by kernel_rfl) rfl
      exact hI.pq hD hls rfl rfl rfl _ (run_lss rfl hvp hvq hq7_0 wn) (.val (.bool false)) rfl rfl rfl hK'
  intro an w8 hI
  obtain ⟨vr7_0, hvr7_0, rfl⟩ := hI.hq 0 _ 10 _ rfl rfl rfl rfl
  have hupd := hI.upd
  have ha := hI.act [(10, .bool false)] (by simp [hvr7_0]) (by kernel_rfl)
  clear hI hvr7_0
  subst ha
  simp only [List.foldl_cons, List.foldl_nil, List.setIfInBounds_toArray, List.set_cons_zero, List.set_cons_succ]
  have Barg_7 := hupd.keep Barg_l4
  have Bxr0y0_7 := hupd.keep Bxr0y0_l4
  have Bxr1y1_7 := hupd.keep Bxr1y1_l4
  have HU7 := hh (HUl4.out.trans hupd)
  clear hupd
  refine wpOps_nil ?_
  refine hK9 _ _ ?_
  clear hK9
  refine wp_seq_k fun K10 hK10 => ?_
  refine wp_cond_false rfl ?_
  refine wp_exit_then ?_
  refine hK2 _ _ ?_
  clear hK2
  refine wp_seq_k fun K11 hK11 => ?_
  refine wp_region_qSD 1 #[true, false] [1] ([.val (.agg A4_3), .val undef] : List SQ) (by kernel_rfl) (by kernel_rfl) (by kernel_rfl) (by kernel_rfl) ?_ ?_
  · intro i o listed an wn ho hls hst hun hdep hI hD hpre K' hK'
    rcases slot_cases (l := [0]) rfl ho hst with rfl | ⟨⟨⟩⟩
    · obtain rfl := Option.some.inj ho
      have hvp : an.eval (.tmp 3) = ptrTo br1_1 := hI.oq (by kernel_rfl) rfl
      exact hI.pq hD hls rfl rfl rfl _ (run_loadQ rfl hvp wn (hI.upd.keep Bxr1y1_7).out Tryd.underlying41 rfl szPt (by rw [hcl3.size]; exact Nat.le_of_ble_eq_true rfl)) (.val (.agg A4_3)) rfl (congrArg Value.agg (extract_all _ 20 hcl3.size)) rfl hK'
  intro an w9 hI
  obtain ⟨vr8_0, hvr8_0, rfl⟩ := hI.hq 0 _ 17 _ rfl rfl rfl rfl
  have hupd := hI.upd
  have ha := hI.act [(17, .agg A4_3)] (by simp [hvr8_0]) (by kernel_rfl)
  clear hI hvr8_0
  subst ha
  simp only [List.foldl_cons, List.foldl_nil, List.setIfInBounds_toArray, List.set_cons_zero, List.set_cons_succ]
  have Barg_8 := hupd.keep Barg_7
  have Bxr0y0_8 := hupd.keep Bxr0y0_7
  have Bxr1y1_8 := hupd.keep Bxr1y1_7
  have HU8 := hh (HU7.out.trans hupd)
  clear hupd
  refine wpOps_storeQ 1 rfl rfl rfl 41 (.tmp 2) (.tmp 17) rfl br0_0 0 20 rfl A4_3 rfl 41 zr0_0 Bxr0y0_8.out szPt hcl3.size (by rw [hzr0_0.size]; exact Nat.le_of_ble_eq_true rfl) hcl3.one' ?_
  intro ws8_0 hs8_0 hus8_0
  rw [splice_all _ _ 20 hzr0_0.size hcl3.size] at hs8_0
  have Barg_s8_0 := hus8_0.keepS Barg_8 (fun e => hner0_0_HBL.out e.symm)
  have Bxr1y1_s8_0 := hus8_0.keepS Bxr1y1_8 (fun e => hner1_1_Bxr0y0.out e)
  have Bxr0y0_s8_0 := hh hs8_0
  have HU8_0 := hh (HU8.out.step hus8_0 (fun i hi h => absurd hi (Nat.not_lt.2 (h.symm ▸ hger0_0.out))))
  clear hs8_0 hus8_0
  refine wpOps_nil ?_
  refine hK11 _ _ ?_
  clear hK11
  refine wp_ret ?_
  try dsimp only [Exit.then]
  try dsimp only [Exit.inBlock]
  exact bodyPost_ret (v := .agg A4_3) (results_cell_row (fn := Tryd.f28) (p := 2) (ty := 41) rfl _ _ br0_0 41 _ (0, 0) _ rfl Bxr0y0_s8_0.out Tryd.underlying41 rfl (by rw [hcl3.size]; exact szPt)) rfl ⟨_, rfl, hcl3, HU8_0.out⟩
set_option maxHeartbeats 4000000 in
theorem addP0 (w : World) (hT : Tw w) :
    Calls Tryd.prog 28 #[.slice none 0 0] w (RetC 20 RP [some EP.nil] w) := by
  have HT := hh hT
  clear hT
  have HU := hh (Upd.refl (fun _ => False) w)
  go_enter Tryd.func28, Tryd.ntmps28
  refine wp_seq_k fun K0 hK0 => ?_
  refine wp_region_qSD 1 #[true] [] ([.blk ptrTo 41 (Ch 20 RP [none])] : List SQ) (by kernel_rfl) (by kernel_rfl) (by kernel_rfl) (by kernel_rfl) ?_ ?_
  · intro i o listed an wn ho hls hst hun hdep hI hD hpre K' hK'
    rcases slot_cases (l := [0]) rfl ho hst with rfl | ⟨⟨⟩⟩
    · obtain rfl := Option.some.inj ho
      exact hI.newQ hD hls (Nat.le_refl _) (newsQ_spec (l := [0]) (by kernel_rfl) ⟨⟨_, _, rfl⟩, trivial⟩) rfl rfl rfl 41 zPt _ (run_allocQ rfl zPt_run wn) rfl zPt_p hK'
  intro an w1 hI
  obtain ⟨vr0_0, hvr0_0, br0_0, zr0_0, rfl, hnr0_0, hbr0_0, hzr0_0⟩ := hI.hq 0 _ 2 _ rfl rfl rfl rfl
  have hupd := hI.upd
  have ha := hI.act [(2, ptrTo br0_0)] (by simp [hvr0_0]) (by kernel_rfl)
  clear hI hvr0_0
  subst ha
  simp only [List.foldl_cons, List.foldl_nil, List.setIfInBounds_toArray, List.set_cons_zero, List.set_cons_succ]
  have hger0_0 := geB HU hnr0_0
  have Bxr0y0 := hh hbr0_0
  have HU0 := hh (HU.out.trans hupd)
  clear hupd
  refine wpOps_nil ?_
  refine hK0 _ _ ?_
  clear hK0
  refine wp_seq_k fun K1 hK1 => ?_
  refine wp_region_qSD 2 #[true, true, false] [2] ([.like (IsC 20 RP [some EP.nil]), .blk ptrTo 41 (Ch 20 RP [none]), .val undef] : List SQ) (by kernel_rfl) (by kernel_rfl) (by kernel_rfl) (by kernel_rfl) ?_ ?_
  · intro i o listed an wn ho hls hst hun hdep hI hD hpre K' hK'
    rcases slot_cases (l := [0, 1]) rfl ho hst with rfl | rfl | ⟨⟨⟩⟩
    · obtain rfl := Option.some.inj ho
      exact hI.cq hD hls rfl rfl rfl 33 #[] _ rfl #[] (by simp) (run_enter Tryd.func33 (by kernel_rfl) (by kernel_rfl)) (.like (IsC 20 RP [some EP.nil])) rfl rfl ((zeroR _ ).mono fun _ _ h => h.sq) hK'
    · obtain rfl := Option.some.inj ho
      exact hI.newQ hD hls (Nat.le_refl _) (newsQ_spec (l := [1]) (by kernel_rfl) ⟨⟨_, _, rfl⟩, trivial⟩) rfl rfl rfl 41 zPt _ (run_allocQ rfl zPt_run wn) rfl zPt_p hK'
  intro an w2 hI
  obtain ⟨vr1_0, hvr1_0, ar1_0, rfl, hCr1_0⟩ := hI.hq 0 _ 6 _ rfl rfl rfl rfl
  obtain ⟨vr1_1, hvr1_1, br1_1, zr1_1, rfl, hnr1_1, hbr1_1, hzr1_1⟩ := hI.hq 1 _ 3 _ rfl rfl rfl rfl
  have hupd := hI.upd
  have ha := hI.act [(6, .agg ar1_0), (3, ptrTo br1_1)] (by simp [hvr1_0, hvr1_1]) (by kernel_rfl)
  clear hI hvr1_0 hvr1_1
  subst ha
  simp only [List.foldl_cons, List.foldl_nil, List.setIfInBounds_toArray, List.set_cons_zero, List.set_cons_succ]
  have hner1_1_Bxr0y0 := apartB Bxr0y0 hnr1_1
  have hger1_1 := geB HU0 hnr1_1
  have Bxr0y0_1 := hupd.keep Bxr0y0
  have Bxr1y1 := hh hbr1_1
  have HU1 := hh (HU0.out.trans hupd)
  clear hupd
  refine wpOps_storeQ 2 rfl rfl rfl 41 (.tmp 3) (.tmp 6) rfl br1_1 0 20 rfl ar1_0 rfl 41 zr1_1 Bxr1y1.out szPt hCr1_0.size (by rw [hzr1_1.size]; exact Nat.le_of_ble_eq_true rfl) hCr1_0.one' ?_
  intro ws1_0 hs1_0 hus1_0
  rw [splice_all _ _ 20 hzr1_1.size hCr1_0.size] at hs1_0
  have Bxr0y0_s1_0 := hus1_0.keepS Bxr0y0_1 (fun e => hner1_1_Bxr0y0.out e.symm)
  have Bxr1y1_s1_0 := hh hs1_0
  have HU1_0 := hh (HU1.out.step hus1_0 (fun i hi h => absurd hi (Nat.not_lt.2 (h.symm ▸ hger1_1.out))))
  clear hs1_0 hus1_0
  refine wpOps_nil ?_
  refine hK1 _ _ ?_
  clear hK1
  refine wp_seq_k fun K2 hK2 => ?_
  refine wp_seq_k fun K3 hK3 => ?_
  refine wp_region_qSD 3 #[true, true, true] [] ([.val (.slice none 0 0), .val (.int .i64 (0 : Int)), .val (.int .i64 0)] : List SQ) (by kernel_rfl) (by kernel_rfl) (by kernel_rfl) (by kernel_rfl) ?_ ?_
  · intro i o listed an wn ho hls hst hun hdep hI hD hpre K' hK'
    rcases slot_cases (l := [0, 1, 2]) rfl ho hst with rfl | rfl | rfl | ⟨⟨⟩⟩
    · obtain rfl := Option.some.inj ho
      have hvp : an.eval (.tmp 0) = .slice none 0 0 := hI.oq (by kernel_rfl) rfl
      exact hI.pq hD hls rfl rfl rfl _ (run_moveQ (.inl rfl) hvp wn) (.val (.slice none 0 0)) rfl rfl rfl hK'
    · obtain rfl := Option.some.inj ho
      obtain ⟨vp, hvp, rfl⟩ := hI.hq 0 _ 7 _ rfl rfl rfl (dp hdep 0 rfl rfl)
      exact hI.pq hD hls rfl rfl rfl _ (run_lenS Tryd.underlying91 rfl (eval_of hvp) wn) (.val (.int .i64 (0 : Int))) rfl rfl rfl hK'
    · obtain rfl := Option.some.inj ho
      exact hI.pq hD hls rfl rfl rfl _ (run_moveQ (.inl rfl) (show an.eval (.const (.int .i64 0)) = .int .i64 0 from rfl) wn) (.val (.int .i64 0)) rfl rfl rfl hK'
  intro an w3 hI
  obtain ⟨vr2_0, hvr2_0, rfl⟩ := hI.hq 0 _ 7 _ rfl rfl rfl rfl
  obtain ⟨vr2_1, hvr2_1, rfl⟩ := hI.hq 1 _ 8 _ rfl rfl rfl rfl
  obtain ⟨vr2_2, hvr2_2, rfl⟩ := hI.hq 2 _ 9 _ rfl rfl rfl rfl
  have hupd := hI.upd
  have ha := hI.act [(7, .slice none 0 0), (8, .int .i64 (0 : Int)), (9, .int .i64 0)] (by simp [hvr2_0, hvr2_1, hvr2_2]) (by kernel_rfl)
  clear hI hvr2_0 hvr2_1 hvr2_2
  subst ha
  simp only [List.foldl_cons, List.foldl_nil, List.setIfInBounds_toArray, List.set_cons_zero, List.set_cons_succ]
  have Bxr0y0_2 := hupd.keep Bxr0y0_s1_0
  have Bxr1y1_2 := hupd.keep Bxr1y1_s1_0
  have HU2 := hh (HU1_0.out.trans hupd)
  clear hupd
  refine wpOps_nil ?_
  refine hK3 _ _ ?_
  clear hK3
  refine wp_block ?_
  refine wp_loop (fun a' w' => ∃ (k : Nat) (u4_5 u4_10 u4_11 u4_12 u4_13 u4_14 u4_15 u4_16 : Value) (A4_3 : Array Value), k ≤ 0 ∧ a' = ⟨#[.slice none 0 0, undef, ptrTo br0_0, ptrTo br1_1, undef, u4_5, .agg ar1_0, .slice none 0 0, .int .i64 (0 : Int), .int .i64 (k : Int), u4_10, u4_11, u4_12, u4_13, u4_14, u4_15, u4_16, undef], []⟩ ∧ Upd (fun _ => False) w w' ∧ Blk w' br1_1 41 A4_3 ∧ Ch 20 RP [some EP.nil] A4_3 ∧ Blk w' br0_0 41 zr0_0) (fun a' _ => (0) - (intOf (a'.tmps.getD 9 undef)).toNat) ?_ ?_
  · exact ⟨0, undef, undef, undef, undef, undef, undef, undef, undef, ar1_0, Nat.zero_le _, rfl, HU2.out, Bxr1y1_2.out, hCr1_0.to (rfl), Bxr0y0_2.out⟩
  rintro a' wl4 ⟨k, u4_5, u4_10, u4_11, u4_12, u4_13, u4_14, u4_15, u4_16, A4_3, hk4, rfl, hul, hbl3, hcl3, hol0⟩
  have HUl4 := hh hul
  have Bxr1y1_l4 := hh hbl3
  have Bxr0y0_l4 := hh hol0
  clear hul hbl3 hol0
  by_cases hlt : k < 0
  · exact absurd hlt (Nat.not_lt_zero _)
  obtain rfl : k = 0 := by omega
  clear hlt
  refine wp_seq_k fun K5 hK5 => ?_
  have hq3_0 : decide (((((0 : Nat) : Int) : Int) < (0 : Int) : Prop)) = false := decide_eq_false (by omega)
  refine wp_region_qSD 1 #[true] [] ([.val (.bool false)] : List SQ) (by kernel_rfl) (by kernel_rfl) (by kernel_rfl) (by kernel_rfl) ?_ ?_
  · intro i o listed an wn ho hls hst hun hdep hI hD hpre K' hK'
    rcases slot_cases (l := [0]) rfl ho hst with rfl | ⟨⟨⟩⟩
    · obtain rfl := Option.some.inj ho
      have hvp : an.eval (.tmp 9) = .int .i64 ((0 : Nat) : Int) := hI.oq (by kernel_rfl) rfl
      have hvq : an.eval (.tmp 8) = .int .i64 (0 : Int) := hI.oq (by kernel_rfl) rfl
      exact hI.pq hD hls rfl rfl rfl _ (run_lss rfl hvp hvq hq3_0 wn) (.val (.bool false)) rfl rfl rfl hK'
  intro an w4 hI
  obtain ⟨vr3_0, hvr3_0, rfl⟩ := hI.hq 0 _ 10 _ rfl rfl rfl rfl
  have hupd := hI.upd
  have ha := hI.act [(10, .bool false)] (by simp [hvr3_0]) (by kernel_rfl)
  clear hI hvr3_0
  subst ha
  simp only [List.foldl_cons, List.foldl_nil, List.setIfInBounds_toArray, List.set_cons_zero, List.set_cons_succ]
  have Bxr0y0_3 := hupd.keep Bxr0y0_l4
  have Bxr1y1_3 := hupd.keep Bxr1y1_l4
  have HU3 := hh (HUl4.out.trans hupd)
  clear hupd
  refine wpOps_nil ?_
  refine hK5 _ _ ?_
  clear hK5
  refine wp_seq_k fun K6 hK6 => ?_
  refine wp_cond_false rfl ?_
  refine wp_exit_then ?_
  refine hK2 _ _ ?_
  clear hK2
  refine wp_seq_k fun K7 hK7 => ?_
  refine wp_region_qSD 1 #[true, false] [1] ([.val (.agg A4_3), .val undef] : List SQ) (by kernel_rfl) (by kernel_rfl) (by kernel_rfl) (by kernel_rfl) ?_ ?_
  · intro i o listed an wn ho hls hst hun hdep hI hD hpre K' hK'
    rcases slot_cases (l := [0]) rfl ho hst with rfl | ⟨⟨⟩⟩
    · obtain rfl := Option.some.inj ho
      have hvp : an.eval (.tmp 3) = ptrTo br1_1 := hI.oq (by kernel_rfl) rfl
      exact hI.pq hD hls rfl rfl rfl _ (run_loadQ rfl hvp wn (hI.upd.keep Bxr1y1_3).out Tryd.underlying41 rfl szPt (by rw [hcl3.size]; exact Nat.le_of_ble_eq_true rfl)) (.val (.agg A4_3)) rfl (congrArg Value.agg (extract_all _ 20 hcl3.size)) rfl hK'
  intro an w5 hI
  obtain ⟨vr4_0, hvr4_0, rfl⟩ := hI.hq 0 _ 17 _ rfl rfl rfl rfl
  have hupd := hI.upd
  have ha := hI.act [(17, .agg A4_3)] (by simp [hvr4_0]) (by kernel_rfl)
  clear hI hvr4_0
  subst ha
  simp only [List.foldl_cons, List.foldl_nil, List.setIfInBounds_toArray, List.set_cons_zero, List.set_cons_succ]
  have Bxr0y0_4 := hupd.keep Bxr0y0_3
  have Bxr1y1_4 := hupd.keep Bxr1y1_3
  have HU4 := hh (HU3.out.trans hupd)
  clear hupd
  refine wpOps_storeQ 1 rfl rfl rfl 41 (.tmp 2) (.tmp 17) rfl br0_0 0 20 rfl A4_3 rfl 41 zr0_0 Bxr0y0_4.out szPt hcl3.size (by rw [hzr0_0.size]; exact Nat.le_of_ble_eq_true rfl) hcl3.one' ?_
  intro ws4_0 hs4_0 hus4_0
  rw [splice_all _ _ 20 hzr0_0.size hcl3.size] at hs4_0
  have Bxr1y1_s4_0 := hus4_0.keepS Bxr1y1_4 (fun e => hner1_1_Bxr0y0.out e)
  have Bxr0y0_s4_0 := hh hs4_0
  have HU4_0 := hh (HU4.out.step hus4_0 (fun i hi h => absurd hi (Nat.not_lt.2 (h.symm ▸ hger0_0.out))))
  clear hs4_0 hus4_0
  refine wpOps_nil ?_
  refine hK7 _ _ ?_
  clear hK7
  refine wp_ret ?_
  try dsimp only [Exit.then]
  try dsimp only [Exit.inBlock]
  exact bodyPost_ret (v := .agg A4_3) (results_cell_row (fn := Tryd.f28) (p := 2) (ty := 41) rfl _ _ br0_0 41 _ (0, 0) _ rfl Bxr0y0_s4_0.out Tryd.underlying41 rfl (by rw [hcl3.size]; exact szPt)) rfl ⟨_, rfl, hcl3, HU4_0.out⟩
theorem addR2 {e f : EP} {b : Nat} {arr : Array Value} (w : World) (hT : Tw w) (hB : Blk w b 41 arr) (hes : Ch 20 RP [some e, some f] arr) : Calls Tryd.prog 28 #[.slice (some ⟨b, 0, none⟩) 2 2] w (RetC 20 RP [some (e.plus f)] w) := by
  have h := addP (es := [e, f]) w hT hB hes (by show 2 < 1000; omega)
  rw [List.take_length, show [e, f].foldl EP.plus EP.nil = (EP.nil.plus e).plus f from rfl, nil_plus] at h
  exact h
theorem addR3 {e f g : EP} {b : Nat} {arr : Array Value} (w : World) (hT : Tw w) (hB : Blk w b 41 arr) (hes : Ch 20 RP [some e, some f, some g] arr) : Calls Tryd.prog 28 #[.slice (some ⟨b, 0, none⟩) 3 3] w (RetC 20 RP [some ((e.plus f).plus g)] w) := by
  have h := addP (es := [e, f, g]) w hT hB hes (by show 3 < 1000; omega)
  rw [List.take_length, show [e, f, g].foldl EP.plus EP.nil = ((EP.nil.plus e).plus f).plus g from rfl, nil_plus] at h
  exact h
end Go.Proofs.YtdpafemcpbhlfaaDoor
