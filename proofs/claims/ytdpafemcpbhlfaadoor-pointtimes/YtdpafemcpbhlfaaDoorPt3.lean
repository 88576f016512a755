/-
  Walks of point: Decode, case by case.
-/
import Derived.Test.YtdpafemcpbhlfaaDoorPt2
namespace Go.Proofs.YtdpafemcpbhlfaaDoor
set_option maxRecDepth 100000
open Go.RowKit

/-- No point has these bytes; or one has, with this first coordinate. -/
def NoDec (k : List Int) : Prop := ¬ (canonB (k.set 31 (bits .andNot .u8 (k.getD 31 0) 128)) = true ∧ isY (ofKey (k.set 31 (bits .andNot .u8 (k.getD 31 0) 128))) = true ∧ ¬ (¬ (bits .and .u8 (k.getD 31 0) 128) = 0 ∧ xOf (ofKey (k.set 31 (bits .andNot .u8 (k.getD 31 0) 128))) = 0))
def YesDec (k : List Int) (x : Fp) : Prop := (canonB (k.set 31 (bits .andNot .u8 (k.getD 31 0) 128)) = true ∧ isY (ofKey (k.set 31 (bits .andNot .u8 (k.getD 31 0) 128))) = true ∧ ¬ (¬ (bits .and .u8 (k.getD 31 0) 128) = 0 ∧ xOf (ofKey (k.set 31 (bits .andNot .u8 (k.getD 31 0) 128))) = 0)) ∧ x = if ¬ (bits .and .u8 (k.getD 31 0) 128) = 0 then -xOf (ofKey (k.set 31 (bits .andNot .u8 (k.getD 31 0) 128))) else xOf (ofKey (k.set 31 (bits .andNot .u8 (k.getD 31 0) 128)))
def DecP (k : List Int) (w : World) (e : Ending) (w' : World) : Prop := ∃ arr, ((e = .returned (.tuple #[.agg arr, .int .i64 60]) ∧ Ch 5 RE [0, 0, 0, 0] arr ∧ NoDec k) ∨ (∃ x, e = .returned (.tuple #[.agg arr, .int .i64 0]) ∧ Ch 5 RE [x, ofKey (k.set 31 (bits .andNot .u8 (k.getD 31 0) 128)), fv 1, x * ofKey (k.set 31 (bits .andNot .u8 (k.getD 31 0) 128))] arr ∧ YesDec k x)) ∧ Upd (fun _ => False) w w'
theorem noA {k : List Int} (h : (!canonB (k.set 31 (bits .andNot .u8 (k.getD 31 0) 128))) = true) : NoDec k := fun ⟨h1, _⟩ => by rw [h1] at h; cases h
theorem noB {k : List Int} (h : isY (ofKey (k.set 31 (bits .andNot .u8 (k.getD 31 0) 128))) = false) : NoDec k := fun ⟨_, h1, _⟩ => by rw [h1] at h; cases h
theorem noC {k : List Int} (h : decide ((bits .and .u8 (k.getD 31 0) 128) ≠ 0) = true) (g : decide (xOf (ofKey (k.set 31 (bits .andNot .u8 (k.getD 31 0) 128))) = 0) = true) : NoDec k := fun ⟨_, _, h1⟩ => h1 ⟨of_decide_eq_true h, of_decide_eq_true g⟩
theorem notnot {b : Bool} (h : (!b) = false) : b = true := by cases b <;> simp_all
theorem yesD {k : List Int} (c : (!canonB (k.set 31 (bits .andNot .u8 (k.getD 31 0) 128))) = false) (y : isY (ofKey (k.set 31 (bits .andNot .u8 (k.getD 31 0) 128))) = true) (h : decide ((bits .and .u8 (k.getD 31 0) 128) ≠ 0) = true) (g : decide (xOf (ofKey (k.set 31 (bits .andNot .u8 (k.getD 31 0) 128))) = 0) = false) : YesDec k (-xOf (ofKey (k.set 31 (bits .andNot .u8 (k.getD 31 0) 128)))) :=
  ⟨⟨notnot c, y, fun h1 => of_decide_eq_false g h1.2⟩, by rw [if_pos (of_decide_eq_true h)]⟩
theorem yesE {k : List Int} (c : (!canonB (k.set 31 (bits .andNot .u8 (k.getD 31 0) 128))) = false) (y : isY (ofKey (k.set 31 (bits .andNot .u8 (k.getD 31 0) 128))) = true) (h : decide ((bits .and .u8 (k.getD 31 0) 128) ≠ 0) = false) : YesDec k (xOf (ofKey (k.set 31 (bits .andNot .u8 (k.getD 31 0) 128)))) :=
  ⟨⟨notnot c, y, fun h1 => of_decide_eq_false h h1.1⟩, by rw [if_neg (of_decide_eq_false h)]⟩
set_option maxHeartbeats 4000000 in
theorem decodeP {k : List Int} (w : World) (hT : Tw w) (hl : k.length = 32) (hd : Digs 256 k) :
    Calls Tryd.prog 24 #[.agg (numsA .u8 k)] w (DecP k w) := by
  have HT := hh hT
  clear hT
  have HU := hh (Upd.refl (fun _ => False) w)
  go_enter Tryd.func24, Tryd.ntmps24
  refine wp_seq_k fun K0 hK0 => ?_
  refine wp_region_qSD 3 #[true, true, true] [] ([.blk ptrTo 23 (fun z => z = numsA .u8 k), .blk ptrTo 41 (Ch 5 RE [0, 0, 0, 0]), .val (.int .i64 0)] : List SQ) (by kernel_rfl) (by kernel_rfl) (by kernel_rfl) (by kernel_rfl) ?_ ?_
  · intro i o listed an wn ho hls hst hun hdep hI hD hpre K' hK'
    rcases slot_cases (l := [0, 1, 2]) rfl ho hst with rfl | rfl | rfl | ⟨⟨⟩⟩
    · obtain rfl := Option.some.inj ho
      have hvp : an.eval (.tmp 0) = .agg (numsA .u8 k) := hI.oq (by kernel_rfl) rfl
      exact hI.newQ hD hls (Nat.le_refl _) (newsQ_spec (l := [0, 1]) (by kernel_rfl) ⟨⟨_, _, rfl⟩, ⟨_, _, rfl⟩, trivial⟩) rfl rfl rfl 23 _ (fun z => z = numsA .u8 k) (run_boxQ rfl hvp wn) rfl rfl hK'
    · obtain rfl := Option.some.inj ho
      exact hI.newQ hD hls (Nat.le_refl _) (newsQ_spec (l := [0, 1]) (by kernel_rfl) ⟨⟨_, _, rfl⟩, ⟨_, _, rfl⟩, trivial⟩) rfl rfl rfl 41 zPt _ (run_allocQ rfl zPt_run wn) rfl zPt_ch hK'
    · obtain rfl := Option.some.inj ho
      exact hI.pq hD hls rfl rfl rfl _ (run_moveQ (.inr rfl) (show an.eval (.const (.int .i64 0)) = .int .i64 0 from rfl) wn) (.val (.int .i64 0)) rfl rfl rfl hK'
  intro an w1 hI
  obtain ⟨vr0_0, hvr0_0, br0_0, zr0_0, rfl, hnr0_0, hbr0_0, hzr0_0⟩ := hI.hq 0 _ 1 _ rfl rfl rfl rfl
  rw [hzr0_0] at hbr0_0
  clear hzr0_0
  obtain ⟨vr0_1, hvr0_1, br0_1, zr0_1, rfl, hnr0_1, hbr0_1, hzr0_1⟩ := hI.hq 1 _ 2 _ rfl rfl rfl rfl
  obtain ⟨vr0_2, hvr0_2, rfl⟩ := hI.hq 2 _ 3 _ rfl rfl rfl rfl
  have hupd := hI.upd
  have hner0_0_r0_1 := hh (show br0_0 ≠ br0_1 from fun e => hI.apart 0 1 _ _ 1 2 (by omega) rfl rfl rfl rfl rfl rfl rfl rfl (by rw [hvr0_0, hvr0_1, e]))
  have ha := hI.act [(1, ptrTo br0_0), (2, ptrTo br0_1), (3, .int .i64 0)] (by simp [hvr0_0, hvr0_1, hvr0_2]) (by kernel_rfl)
  clear hI hvr0_0 hvr0_1 hvr0_2
  subst ha
  simp only [List.foldl_cons, List.foldl_nil, List.setIfInBounds_toArray, List.set_cons_zero, List.set_cons_succ]
  have hger0_0 := geB HU hnr0_0
  have hger0_1 := geB HU hnr0_1
  have Bxr0y0 := hh hbr0_0
  have Bxr0y1 := hh hbr0_1
  have HU0 := hh (HU.out.trans hupd)
  clear hupd
  refine wpOps_nil ?_
  refine hK0 _ _ ?_
  clear hK0
  refine wp_seq_k fun K1 hK1 => ?_
  refine wp_region_qSD 5 #[true, true, true, true, true] [] ([.val (.pointer (some ⟨br0_0, 0 + 31, none⟩)), .val (.int .u8 (k.getD 31 0)), .val (.int .u8 (bits .and .u8 (k.getD 31 0) 128)), .val (.bool (decide ((bits .and .u8 (k.getD 31 0) 128) ≠ 0))), .val (.bool (decide ((bits .and .u8 (k.getD 31 0) 128) ≠ 0)))] : List SQ) (by kernel_rfl) (by kernel_rfl) (by kernel_rfl) (by kernel_rfl) ?_ ?_
  · intro i o listed an wn ho hls hst hun hdep hI hD hpre K' hK'
    rcases slot_cases (l := [0, 1, 2, 3, 4]) rfl ho hst with rfl | rfl | rfl | rfl | rfl | ⟨⟨⟩⟩
    · obtain rfl := Option.some.inj ho
      have hvp : an.eval (.tmp 1) = ptrTo br0_0 := hI.oq (by kernel_rfl) rfl
      exact hI.pq hD hls rfl rfl rfl _ (run_adr (off := 0) (i := 31) rfl Tryd.underlying23 size5 hvp rfl (by omega) wn) (.val (.pointer (some ⟨br0_0, 0 + 31, none⟩))) rfl rfl rfl hK'
    · obtain rfl := Option.some.inj ho
      obtain ⟨vp, hvp, rfl⟩ := hI.hq 0 _ 8 _ rfl rfl rfl (dp hdep 0 rfl rfl)
      exact hI.pq hD hls rfl rfl rfl _ (run_cellQ rfl Tryd.underlying5 (eval_of hvp) wn (hI.upd.keep Bxr0y0).out (by rw [Nat.zero_add]; exact numsA_get _ _ _ (by rw [hl]; omega))) (.val (.int .u8 (k.getD 31 0))) rfl rfl rfl hK'
    · obtain rfl := Option.some.inj ho
      obtain ⟨vp, hvp, rfl⟩ := hI.hq 1 _ 9 _ rfl rfl rfl (dp hdep 0 rfl rfl)
      exact hI.pq hD hls rfl rfl rfl _ (run_andB8 rfl (eval_of hvp) rfl wn) (.val (.int .u8 (bits .and .u8 (k.getD 31 0) 128))) rfl rfl rfl hK'
    · obtain rfl := Option.some.inj ho
      obtain ⟨vp, hvp, rfl⟩ := hI.hq 2 _ 10 _ rfl rfl rfl (dp hdep 0 rfl rfl)
      exact hI.pq hD hls rfl rfl rfl _ (run_neq rfl (eval_of hvp) rfl rfl wn) (.val (.bool (decide ((bits .and .u8 (k.getD 31 0) 128) ≠ 0)))) rfl rfl rfl hK'
    · obtain rfl := Option.some.inj ho
      obtain ⟨vp, hvp, rfl⟩ := hI.hq 3 _ 11 _ rfl rfl rfl (dp hdep 0 rfl rfl)
      exact hI.pq hD hls rfl rfl rfl _ (run_moveQ (.inr rfl) (eval_of hvp) wn) (.val (.bool (decide ((bits .and .u8 (k.getD 31 0) 128) ≠ 0)))) rfl rfl rfl hK'
  intro an w2 hI
  obtain ⟨vr1_0, hvr1_0, rfl⟩ := hI.hq 0 _ 8 _ rfl rfl rfl rfl
  obtain ⟨vr1_1, hvr1_1, rfl⟩ := hI.hq 1 _ 9 _ rfl rfl rfl rfl
  obtain ⟨vr1_2, hvr1_2, rfl⟩ := hI.hq 2 _ 10 _ rfl rfl rfl rfl
  obtain ⟨vr1_3, hvr1_3, rfl⟩ := hI.hq 3 _ 11 _ rfl rfl rfl rfl
  obtain ⟨vr1_4, hvr1_4, rfl⟩ := hI.hq 4 _ 4 _ rfl rfl rfl rfl
  have hupd := hI.upd
  have ha := hI.act [(8, .pointer (some ⟨br0_0, 0 + 31, none⟩)), (9, .int .u8 (k.getD 31 0)), (10, .int .u8 (bits .and .u8 (k.getD 31 0) 128)), (11, .bool (decide ((bits .and .u8 (k.getD 31 0) 128) ≠ 0))), (4, .bool (decide ((bits .and .u8 (k.getD 31 0) 128) ≠ 0)))] (by simp [hvr1_0, hvr1_1, hvr1_2, hvr1_3, hvr1_4]) (by kernel_rfl)
  clear hI hvr1_0 hvr1_1 hvr1_2 hvr1_3 hvr1_4
  subst ha
  simp only [List.foldl_cons, List.foldl_nil, List.setIfInBounds_toArray, List.set_cons_zero, List.set_cons_succ]
  have Bxr0y0_1 := hupd.keep Bxr0y0
  have Bxr0y1_1 := hupd.keep Bxr0y1
  have HU1 := hh (HU0.out.trans hupd)
  clear hupd
  refine wpOps_nil ?_
  refine hK1 _ _ ?_
  clear hK1
  refine wp_seq_k fun K2 hK2 => ?_
  refine wp_region_qSD 4 #[true, true, true, true, false] [4] ([.val (.pointer (some ⟨br0_0, 0 + 31, none⟩)), .val (.int .u8 (k.getD 31 0)), .val (.int .u8 (bits .andNot .u8 (k.getD 31 0) 128)), .val (.pointer (some ⟨br0_0, 0 + 31, none⟩)), .val undef] : List SQ) (by kernel_rfl) (by kernel_rfl) (by kernel_rfl) (by kernel_rfl) ?_ ?_
  · intro i o listed an wn ho hls hst hun hdep hI hD hpre K' hK'
    rcases slot_cases (l := [0, 1, 2, 3]) rfl ho hst with rfl | rfl | rfl | rfl | ⟨⟨⟩⟩
    · obtain rfl := Option.some.inj ho
      have hvp : an.eval (.tmp 1) = ptrTo br0_0 := hI.oq (by kernel_rfl) rfl
      exact hI.pq hD hls rfl rfl rfl _ (run_adr (off := 0) (i := 31) rfl Tryd.underlying23 size5 hvp rfl (by omega) wn) (.val (.pointer (some ⟨br0_0, 0 + 31, none⟩))) rfl rfl rfl hK'
    · obtain rfl := Option.some.inj ho
      obtain ⟨vp, hvp, rfl⟩ := hI.hq 0 _ 12 _ rfl rfl rfl (dp hdep 0 rfl rfl)
      exact hI.pq hD hls rfl rfl rfl _ (run_cellQ rfl Tryd.underlying5 (eval_of hvp) wn (hI.upd.keep Bxr0y0_1).out (by rw [Nat.zero_add]; exact numsA_get _ _ _ (by rw [hl]; omega))) (.val (.int .u8 (k.getD 31 0))) rfl rfl rfl hK'
    · obtain rfl := Option.some.inj ho
      obtain ⟨vp, hvp, rfl⟩ := hI.hq 1 _ 13 _ rfl rfl rfl (dp hdep 0 rfl rfl)
      exact hI.pq hD hls rfl rfl rfl _ (run_andNot8 rfl (eval_of hvp) rfl wn) (.val (.int .u8 (bits .andNot .u8 (k.getD 31 0) 128))) rfl rfl rfl hK'
    · obtain rfl := Option.some.inj ho
      have hvp : an.eval (.tmp 1) = ptrTo br0_0 := hI.oq (by kernel_rfl) rfl
      exact hI.pq hD hls rfl rfl rfl _ (run_adr (off := 0) (i := 31) rfl Tryd.underlying23 size5 hvp rfl (by omega) wn) (.val (.pointer (some ⟨br0_0, 0 + 31, none⟩))) rfl rfl rfl hK'
  intro an w3 hI
  obtain ⟨vr2_0, hvr2_0, rfl⟩ := hI.hq 0 _ 12 _ rfl rfl rfl rfl
  obtain ⟨vr2_1, hvr2_1, rfl⟩ := hI.hq 1 _ 13 _ rfl rfl rfl rfl
  obtain ⟨vr2_2, hvr2_2, rfl⟩ := hI.hq 2 _ 14 _ rfl rfl rfl rfl
  obtain ⟨vr2_3, hvr2_3, rfl⟩ := hI.hq 3 _ 15 _ rfl rfl rfl rfl
  have hupd := hI.upd
  have ha := hI.act [(12, .pointer (some ⟨br0_0, 0 + 31, none⟩)), (13, .int .u8 (k.getD 31 0)), (14, .int .u8 (bits .andNot .u8 (k.getD 31 0) 128)), (15, .pointer (some ⟨br0_0, 0 + 31, none⟩))] (by simp [hvr2_0, hvr2_1, hvr2_2, hvr2_3]) (by kernel_rfl)
  clear hI hvr2_0 hvr2_1 hvr2_2 hvr2_3
  subst ha
  simp only [List.foldl_cons, List.foldl_nil, List.setIfInBounds_toArray, List.set_cons_zero, List.set_cons_succ]
  have Bxr0y0_2 := hupd.keep Bxr0y0_1
  have Bxr0y1_2 := hupd.keep Bxr0y1_1
  have HU2 := hh (HU1.out.trans hupd)
  clear hupd
  refine wpOps_storeB 4 rfl rfl rfl 5 (.tmp 15) (.tmp 14) rfl size5 br0_0 (0 + 31) rfl (bits .andNot .u8 (k.getD 31 0) 128) rfl 23 k Bxr0y0_2.out (by rw [hl]; omega) ?_
  rw [Nat.zero_add]
  intro ws2_0 hs2_0 hus2_0
  have Bxr0y1_s2_0 := hus2_0.keepS Bxr0y1_2 (fun e => hner0_0_r0_1.out e.symm)
  have Bxr0y0_s2_0 := hh hs2_0
  have HU2_0 := hh (HU2.out.step hus2_0 (fun i hi h => absurd hi (Nat.not_lt.2 (h.symm ▸ hger0_0.out))))
  clear hs2_0 hus2_0
  refine wpOps_nil ?_
  refine hK2 _ _ ?_
  clear hK2
  refine wp_seq_k fun K3 hK3 => ?_
  refine wp_seq_k fun K4 hK4 => ?_
  refine wp_region_qSD 3 #[true, true, true] [] ([.val (.agg (numsA .u8 (k.set 31 (bits .andNot .u8 (k.getD 31 0) 128)))), .val (.bool (canonB (k.set 31 (bits .andNot .u8 (k.getD 31 0) 128)))), .val (.bool (!(canonB (k.set 31 (bits .andNot .u8 (k.getD 31 0) 128)))))] : List SQ) (by kernel_rfl) (by kernel_rfl) (by kernel_rfl) (by kernel_rfl) ?_ ?_
  · intro i o listed an wn ho hls hst hun hdep hI hD hpre K' hK'
    rcases slot_cases (l := [0, 1, 2]) rfl ho hst with rfl | rfl | rfl | ⟨⟨⟩⟩
    · obtain rfl := Option.some.inj ho
      have hvp : an.eval (.tmp 1) = ptrTo br0_0 := hI.oq (by kernel_rfl) rfl
      exact hI.pq hD hls rfl rfl rfl _ (run_loadQ rfl hvp wn (hI.upd.keep Bxr0y0_s2_0).out Tryd.underlying23 rfl sizeKey (by rw [numsA_size, (set_length hl _ _)]; omega)) (.val (.agg (numsA .u8 (k.set 31 (bits .andNot .u8 (k.getD 31 0) 128))))) rfl (congrArg Value.agg (extract_all _ 32 (by rw [numsA_size]; exact (set_length hl _ _)))) rfl hK'
    · obtain rfl := Option.some.inj ho
      obtain ⟨vp, hvp, rfl⟩ := hI.hq 0 _ 16 _ rfl rfl rfl (dp hdep 0 rfl rfl)
      exact hI.cq hD hls rfl rfl rfl 60 #[.tmp 16] _ rfl #[.agg (numsA .u8 (k.set 31 (bits .andNot .u8 (k.getD 31 0) 128)))] (by simp [eval_of hvp]) (run_enter Tryd.func60 (by kernel_rfl) (by kernel_rfl)) (.val (.bool (canonB (k.set 31 (bits .andNot .u8 (k.getD 31 0) 128))))) rfl rfl ((canonicalE (k.set 31 (bits .andNot .u8 (k.getD 31 0) 128)) (set_length hl _ _) (digs_set hd _ _ (andNot8_bnd _ _ (Digs.get (B := 256) (by decide) hd _) (by decide)).1 (andNot8_bnd _ _ (Digs.get (B := 256) (by decide) hd _) (by decide)).2)).mono fun _ _ h => ret_val h) hK'
    · obtain rfl := Option.some.inj ho
      obtain ⟨vp, hvp, rfl⟩ := hI.hq 1 _ 17 _ rfl rfl rfl (dp hdep 0 rfl rfl)
      exact hI.pq hD hls rfl rfl rfl _ (run_notB rfl (eval_of hvp) wn) (.val (.bool (!(canonB (k.set 31 (bits .andNot .u8 (k.getD 31 0) 128)))))) rfl rfl rfl hK'
  intro an w4 hI
  obtain ⟨vr3_0, hvr3_0, rfl⟩ := hI.hq 0 _ 16 _ rfl rfl rfl rfl
  obtain ⟨vr3_1, hvr3_1, rfl⟩ := hI.hq 1 _ 17 _ rfl rfl rfl rfl
  obtain ⟨vr3_2, hvr3_2, rfl⟩ := hI.hq 2 _ 18 _ rfl rfl rfl rfl
  have hupd := hI.upd
  have ha := hI.act [(16, .agg (numsA .u8 (k.set 31 (bits .andNot .u8 (k.getD 31 0) 128)))), (17, .bool (canonB (k.set 31 (bits .andNot .u8 (k.getD 31 0) 128)))), (18, .bool (!(canonB (k.set 31 (bits .andNot .u8 (k.getD 31 0) 128)))))] (by simp [hvr3_0, hvr3_1, hvr3_2]) (by kernel_rfl)
  clear hI hvr3_0 hvr3_1 hvr3_2
  subst ha
  simp only [List.foldl_cons, List.foldl_nil, List.setIfInBounds_toArray, List.set_cons_zero, List.set_cons_succ]
  have Bxr0y0_3 := hupd.keep Bxr0y0_s2_0
  have Bxr0y1_3 := hupd.keep Bxr0y1_s2_0
  have HU3 := hh (HU2_0.out.trans hupd)
  clear hupd
  refine wpOps_nil ?_
  refine hK4 _ _ ?_
  clear hK4
  refine wp_cond_split (t := (!(canonB (k.set 31 (bits .andNot .u8 (k.getD 31 0) 128))))) rfl (fun hcd => ?_) (fun hcd => ?_)
  · have Hcd5 := hh hcd
    clear hcd
    refine wp_seq_k fun K6 hK6 => ?_
    refine wp_region_qSD 1 #[true, false, false] [1, 2] ([.val (.agg zPt), .val undef, .val undef] : List SQ) (by kernel_rfl) (by kernel_rfl) (by kernel_rfl) (by kernel_rfl) ?_ ?_
    · intro i o listed an wn ho hls hst hun hdep hI hD hpre K' hK'
      rcases slot_cases (l := [0]) rfl ho hst with rfl | ⟨⟨⟩⟩
      · obtain rfl := Option.some.inj ho
        exact hI.pq hD hls rfl rfl rfl _ (run_buildPt0 rfl wn) (.val (.agg zPt)) rfl rfl rfl hK'
    intro an w5 hI
    obtain ⟨vr4_0, hvr4_0, rfl⟩ := hI.hq 0 _ 19 _ rfl rfl rfl rfl
    have hupd := hI.upd
    have ha := hI.act [(19, .agg zPt)] (by simp [hvr4_0]) (by kernel_rfl)
    clear hI hvr4_0
    subst ha
    simp only [List.foldl_cons, List.foldl_nil, List.setIfInBounds_toArray, List.set_cons_zero, List.set_cons_succ]
    have Bxr0y0_4 := hupd.keep Bxr0y0_3
    have Bxr0y1_4 := hupd.keep Bxr0y1_3
    have HU4 := hh (HU3.out.trans hupd)
    clear hupd
    refine wpOps_storeQ 1 rfl rfl rfl 41 (.tmp 2) (.tmp 19) rfl br0_1 0 20 rfl zPt rfl 41 zr0_1 Bxr0y1_4.out szPt zPt_ch.size (by rw [hzr0_1.size]; exact Nat.le_of_ble_eq_true rfl) zPt_ch.one' ?_
    intro ws4_0 hs4_0 hus4_0
    rw [splice_all _ _ 20 hzr0_1.size zPt_ch.size] at hs4_0
    have Bxr0y0_s4_0 := hus4_0.keepS Bxr0y0_4 (fun e => hner0_0_r0_1.out e)
    have Bxr0y1_s4_0 := hh hs4_0
    have HU4_0 := hh (HU4.out.step hus4_0 (fun i hi h => absurd hi (Nat.not_lt.2 (h.symm ▸ hger0_1.out))))
    clear hs4_0 hus4_0
    refine wpOps_pureQ 2 rfl rfl 3 rfl (.int .i64 60) (run_moveQ (x := .const (.int .i64 60)) (v := .int .i64 60) (.inr rfl) rfl _) ?_
    simp only [List.setIfInBounds_toArray, List.set_cons_zero, List.set_cons_succ]
    refine wpOps_nil ?_
    refine hK6 _ _ ?_
    clear hK6
    refine wp_ret ?_
    try dsimp only [Exit.then]
    try dsimp only [Exit.inBlock]
    exact bodyPost_ret (v := .tuple #[.agg zPt, .int .i64 60]) (results_cell_tmpQ (fn := Tryd.f24) (p := 2) (q := 3) (ty := 41) rfl _ _ br0_1 zPt (.int .i64 60) rfl rfl Bxr0y1_s4_0.out Tryd.underlying41 rfl (by rw [zPt_ch.size]; exact szPt)) rfl ⟨_, .inl ⟨rfl, zPt_ch, noA Hcd5.out⟩, HU4_0.out⟩
  have Hcd7 := hh hcd
  clear hcd
  refine wp_skip ?_
  refine hK3 _ _ ?_
  clear hK3
  refine wp_seq_k fun K8 hK8 => ?_
  refine wp_region_qSD 3 #[true, true, true, false] [3] ([.val (.agg (numsA .u8 (k.set 31 (bits .andNot .u8 (k.getD 31 0) 128)))), .like (IsC 5 RE [ofKey (k.set 31 (bits .andNot .u8 (k.getD 31 0) 128))]), .blk ptrTo 39 (Ch 5 RE [0]), .val undef] : List SQ) (by kernel_rfl) (by kernel_rfl) (by kernel_rfl) (by kernel_rfl) ?_ ?_
  · intro i o listed an wn ho hls hst hun hdep hI hD hpre K' hK'
    rcases slot_cases (l := [0, 1, 2]) rfl ho hst with rfl | rfl | rfl | ⟨⟨⟩⟩
    · obtain rfl := Option.some.inj ho
      have hvp : an.eval (.tmp 1) = ptrTo br0_0 := hI.oq (by kernel_rfl) rfl
      exact hI.pq hD hls rfl rfl rfl _ (run_loadQ rfl hvp wn (hI.upd.keep Bxr0y0_3).out Tryd.underlying23 rfl sizeKey (by rw [numsA_size, (set_length hl _ _)]; omega)) (.val (.agg (numsA .u8 (k.set 31 (bits .andNot .u8 (k.getD 31 0) 128))))) rfl (congrArg Value.agg (extract_all _ 32 (by rw [numsA_size]; exact (set_length hl _ _)))) rfl hK'
    · obtain rfl := Option.some.inj ho
      obtain ⟨vp, hvp, rfl⟩ := hI.hq 0 _ 20 _ rfl rfl rfl (dp hdep 0 rfl rfl)
      exact hI.cq hD hls rfl rfl rfl 42 #[.tmp 20] _ rfl #[.agg (numsA .u8 (k.set 31 (bits .andNot .u8 (k.getD 31 0) 128)))] (by simp [eval_of hvp]) (run_enter Tryd.func42 (by kernel_rfl) (by kernel_rfl)) (.like (IsC 5 RE [ofKey (k.set 31 (bits .andNot .u8 (k.getD 31 0) 128))])) rfl rfl ((ofE (k.set 31 (bits .andNot .u8 (k.getD 31 0) 128)) ((set_length hl _ _)) ((digs_set hd _ _ (andNot8_bnd _ _ (Digs.get (B := 256) (by decide) hd _) (by decide)).1 (andNot8_bnd _ _ (Digs.get (B := 256) (by decide) hd _) (by decide)).2))).mono fun _ _ h => h.sq) hK'
    · obtain rfl := Option.some.inj ho
      exact hI.newQ hD hls (Nat.le_refl _) (newsQ_spec (l := [2]) (by kernel_rfl) ⟨⟨_, _, rfl⟩, trivial⟩) rfl rfl rfl 39 zE _ (run_allocQ rfl zE_run wn) rfl zE_ch hK'
  intro an w6 hI
  obtain ⟨vr5_0, hvr5_0, rfl⟩ := hI.hq 0 _ 20 _ rfl rfl rfl rfl
  obtain ⟨vr5_1, hvr5_1, ar5_1, rfl, hCr5_1⟩ := hI.hq 1 _ 21 _ rfl rfl rfl rfl
  obtain ⟨vr5_2, hvr5_2, br5_2, zr5_2, rfl, hnr5_2, hbr5_2, hzr5_2⟩ := hI.hq 2 _ 5 _ rfl rfl rfl rfl
  have hupd := hI.upd
  have ha := hI.act [(20, .agg (numsA .u8 (k.set 31 (bits .andNot .u8 (k.getD 31 0) 128)))), (21, .agg ar5_1), (5, ptrTo br5_2)] (by simp [hvr5_0, hvr5_1, hvr5_2]) (by kernel_rfl)
  clear hI hvr5_0 hvr5_1 hvr5_2
  subst ha
  simp only [List.foldl_cons, List.foldl_nil, List.setIfInBounds_toArray, List.set_cons_zero, List.set_cons_succ]
  have hner5_2_Bxr0y0_3 := apartB Bxr0y0_3 hnr5_2
  have hner5_2_Bxr0y1_3 := apartB Bxr0y1_3 hnr5_2
  have hger5_2 := geB HU3 hnr5_2
  have Bxr0y0_5 := hupd.keep Bxr0y0_3
  have Bxr0y1_5 := hupd.keep Bxr0y1_3
  have Bxr5y2 := hh hbr5_2
  have HU5 := hh (HU3.out.trans hupd)
  clear hupd
  refine wpOps_storeQ 3 rfl rfl rfl 39 (.tmp 5) (.tmp 21) rfl br5_2 0 5 rfl ar5_1 rfl 39 zr5_2 Bxr5y2.out szE hCr5_1.size (by rw [hzr5_2.size]; exact Nat.le_of_ble_eq_true rfl) hCr5_1.one' ?_
  intro ws5_0 hs5_0 hus5_0
  rw [splice_all _ _ 5 hzr5_2.size hCr5_1.size] at hs5_0
  have Bxr0y0_s5_0 := hus5_0.keepS Bxr0y0_5 (fun e => hner5_2_Bxr0y0_3.out e.symm)
  have Bxr0y1_s5_0 := hus5_0.keepS Bxr0y1_5 (fun e => hner5_2_Bxr0y1_3.out e.symm)
  have Bxr5y2_s5_0 := hh hs5_0
  have HU5_0 := hh (HU5.out.step hus5_0 (fun i hi h => absurd hi (Nat.not_lt.2 (h.symm ▸ hger5_2.out))))
  clear hs5_0 hus5_0
  refine wpOps_nil ?_
  refine hK8 _ _ ?_
  clear hK8
  refine wp_seq_k fun K9 hK9 => ?_
  refine wp_region_qSD 6 #[true, true, true, true, true, true, false, false] [6, 7] ([.val (.agg ar5_1), .like (IsCV 5 RE [xOf (ofKey (k.set 31 (bits .andNot .u8 (k.getD 31 0) 128)))] (.bool (isY (ofKey (k.set 31 (bits .andNot .u8 (k.getD 31 0) 128)))))), .like (IsCV 5 RE [xOf (ofKey (k.set 31 (bits .andNot .u8 (k.getD 31 0) 128)))] (.bool (isY (ofKey (k.set 31 (bits .andNot .u8 (k.getD 31 0) 128)))))), .like (IsC 5 RE [xOf (ofKey (k.set 31 (bits .andNot .u8 (k.getD 31 0) 128)))]), .val (.bool (isY (ofKey (k.set 31 (bits .andNot .u8 (k.getD 31 0) 128))))), .blk ptrTo 39 (Ch 5 RE [0]), .val undef, .val undef] : List SQ) (by kernel_rfl) (by kernel_rfl) (by kernel_rfl) (by kernel_rfl) ?_ ?_
  · intro i o listed an wn ho hls hst hun hdep hI hD hpre K' hK'
    rcases slot_cases (l := [0, 1, 2, 3, 4, 5]) rfl ho hst with rfl | rfl | rfl | rfl | rfl | rfl | ⟨⟨⟩⟩
    · obtain rfl := Option.some.inj ho
      have hvp : an.eval (.tmp 5) = ptrTo br5_2 := hI.oq (by kernel_rfl) rfl
      exact hI.pq hD hls rfl rfl rfl _ (run_loadQ rfl hvp wn (hI.upd.keep Bxr5y2_s5_0).out Tryd.underlying39 rfl szE (by rw [hCr5_1.size]; exact Nat.le_of_ble_eq_true rfl)) (.val (.agg ar5_1)) rfl (congrArg Value.agg (extract_all _ 5 hCr5_1.size)) rfl hK'
    · obtain rfl := Option.some.inj ho
      obtain ⟨vp, hvp, rfl⟩ := hI.hq 0 _ 23 _ rfl rfl rfl (dp hdep 0 rfl rfl)
      exact hI.cq hD hls rfl rfl rfl 61 #[.tmp 23] _ rfl #[.agg ar5_1] (by simp [eval_of hvp]) (run_enter Tryd.func61 (by kernel_rfl) (by kernel_rfl)) (.like (IsCV 5 RE [xOf (ofKey (k.set 31 (bits .andNot .u8 (k.getD 31 0) 128)))] (.bool (isY (ofKey (k.set 31 (bits .andNot .u8 (k.getD 31 0) 128))))))) rfl rfl ((evenXP _ (HT.out.upd (HU5_0.out.trans hI.upd)) hCr5_1 (den_y _)).mono fun _ _ h => h.sq) hK'
    · obtain rfl := Option.some.inj ho
      obtain ⟨vp, hvp, ap, rfl, hCp⟩ := hI.hq 1 _ 24 _ rfl rfl rfl (dp hdep 0 rfl rfl)
      exact hI.pq hD hls rfl rfl rfl _ (run_moveQ (.inl rfl) (eval_of hvp) wn) (.like (IsCV 5 RE [xOf (ofKey (k.set 31 (bits .andNot .u8 (k.getD 31 0) 128)))] (.bool (isY (ofKey (k.set 31 (bits .andNot .u8 (k.getD 31 0) 128))))))) rfl ⟨_, rfl, hCp⟩ rfl hK'
    · obtain rfl := Option.some.inj ho
      obtain ⟨vp, hvp, ap, rfl, hCp⟩ := hI.hq 2 _ 22 _ rfl rfl rfl (dp hdep 0 rfl rfl)
      exact hI.pq hD hls rfl rfl rfl _ (run_extractQ rfl (eval_of hvp) rfl wn) (.like (IsC 5 RE [xOf (ofKey (k.set 31 (bits .andNot .u8 (k.getD 31 0) 128)))])) rfl ⟨_, rfl, hCp⟩ rfl hK'
    · obtain rfl := Option.some.inj ho
      obtain ⟨vp, hvp, ap, rfl, hCp⟩ := hI.hq 2 _ 22 _ rfl rfl rfl (dp hdep 0 rfl rfl)
      exact hI.pq hD hls rfl rfl rfl _ (run_extractQ rfl (eval_of hvp) rfl wn) (.val (.bool (isY (ofKey (k.set 31 (bits .andNot .u8 (k.getD 31 0) 128)))))) rfl rfl rfl hK'
    · obtain rfl := Option.some.inj ho
      exact hI.newQ hD hls (Nat.le_refl _) (newsQ_spec (l := [5]) (by kernel_rfl) ⟨⟨_, _, rfl⟩, trivial⟩) rfl rfl rfl 39 zE _ (run_allocQ rfl zE_run wn) rfl zE_ch hK'
  intro an w7 hI
  obtain ⟨vr6_0, hvr6_0, rfl⟩ := hI.hq 0 _ 23 _ rfl rfl rfl rfl
  obtain ⟨vr6_1, hvr6_1, ar6_1, rfl, hCr6_1⟩ := hI.hq 1 _ 24 _ rfl rfl rfl rfl
  obtain ⟨vr6_2, hvr6_2, ar6_2, rfl, hCr6_2⟩ := hI.hq 2 _ 22 _ rfl rfl rfl rfl
  obtain ⟨vr6_3, hvr6_3, ar6_3, rfl, hCr6_3⟩ := hI.hq 3 _ 25 _ rfl rfl rfl rfl
  obtain ⟨vr6_4, hvr6_4, rfl⟩ := hI.hq 4 _ 26 _ rfl rfl rfl rfl
  obtain ⟨vr6_5, hvr6_5, br6_5, zr6_5, rfl, hnr6_5, hbr6_5, hzr6_5⟩ := hI.hq 5 _ 6 _ rfl rfl rfl rfl
  have hupd := hI.upd
  have ha := hI.act [(23, .agg ar5_1), (24, .tuple #[.agg ar6_1, .bool (isY (ofKey (k.set 31 (bits .andNot .u8 (k.getD 31 0) 128))))]), (22, .tuple #[.agg ar6_2, .bool (isY (ofKey (k.set 31 (bits .andNot .u8 (k.getD 31 0) 128))))]), (25, .agg ar6_3), (26, .bool (isY (ofKey (k.set 31 (bits .andNot .u8 (k.getD 31 0) 128))))), (6, ptrTo br6_5)] (by simp [hvr6_0, hvr6_1, hvr6_2, hvr6_3, hvr6_4, hvr6_5]) (by kernel_rfl)
  clear hI hvr6_0 hvr6_1 hvr6_2 hvr6_3 hvr6_4 hvr6_5
  subst ha
  simp only [List.foldl_cons, List.foldl_nil, List.setIfInBounds_toArray, List.set_cons_zero, List.set_cons_succ]
  have hner6_5_Bxr0y0_s5_0 := apartB Bxr0y0_s5_0 hnr6_5
  have hner6_5_Bxr0y1_s5_0 := apartB Bxr0y1_s5_0 hnr6_5
  have hner6_5_Bxr5y2_s5_0 := apartB Bxr5y2_s5_0 hnr6_5
  have hger6_5 := geB HU5_0 hnr6_5
  have Bxr0y0_6 := hupd.keep Bxr0y0_s5_0
  have Bxr0y1_6 := hupd.keep Bxr0y1_s5_0
  have Bxr5y2_6 := hupd.keep Bxr5y2_s5_0
  have Bxr6y5 := hh hbr6_5
  have HU6 := hh (HU5_0.out.trans hupd)
  clear hupd
  refine wpOps_storeQ 6 rfl rfl rfl 39 (.tmp 6) (.tmp 25) rfl br6_5 0 5 rfl ar6_3 rfl 39 zr6_5 Bxr6y5.out szE hCr6_3.size (by rw [hzr6_5.size]; exact Nat.le_of_ble_eq_true rfl) hCr6_3.one' ?_
  intro ws6_0 hs6_0 hus6_0
  rw [splice_all _ _ 5 hzr6_5.size hCr6_3.size] at hs6_0
  have Bxr0y0_s6_0 := hus6_0.keepS Bxr0y0_6 (fun e => hner6_5_Bxr0y0_s5_0.out e.symm)
  have Bxr0y1_s6_0 := hus6_0.keepS Bxr0y1_6 (fun e => hner6_5_Bxr0y1_s5_0.out e.symm)
  have Bxr5y2_s6_0 := hus6_0.keepS Bxr5y2_6 (fun e => hner6_5_Bxr5y2_s5_0.out e.symm)
  have Bxr6y5_s6_0 := hh hs6_0
  have HU6_0 := hh (HU6.out.step hus6_0 (fun i hi h => absurd hi (Nat.not_lt.2 (h.symm ▸ hger6_5.out))))
  clear hs6_0 hus6_0
  refine wpOps_pureQ 7 rfl rfl 7 rfl (.bool (isY (ofKey (k.set 31 (bits .andNot .u8 (k.getD 31 0) 128))))) (run_moveQ (x := .tmp 26) (v := .bool (isY (ofKey (k.set 31 (bits .andNot .u8 (k.getD 31 0) 128))))) (.inr rfl) rfl _) ?_
  simp only [List.setIfInBounds_toArray, List.set_cons_zero, List.set_cons_succ]
  refine wpOps_nil ?_
  refine hK9 _ _ ?_
  clear hK9
  refine wp_seq_k fun K10 hK10 => ?_
  refine wp_seq_k fun K11 hK11 => ?_
  obtain hsp12 | hsp12 := bool_two (isY (ofKey (k.set 31 (bits .andNot .u8 (k.getD 31 0) 128))))
  · have Hsp12 := hh hsp12
    rw [hsp12]
    clear hsp12
    obtain hsp13 | hsp13 := bool_two (decide ((bits .and .u8 (k.getD 31 0) 128) ≠ 0))
    · have Hsp13 := hh hsp13
      rw [hsp13]
      clear hsp13
      refine wp_region_qSD 9 #[true, true, true, true, true, true, true, true, true] [] ([.val (.bool true), .val (.bool false), .val (.bool false), .val (.bool true), .val (.bool true), .val (.agg ar6_3), .val (.bool (decide (xOf (ofKey (k.set 31 (bits .andNot .u8 (k.getD 31 0) 128))) = 0))), .val (.bool (decide (xOf (ofKey (k.set 31 (bits .andNot .u8 (k.getD 31 0) 128))) = 0))), .val (.bool (decide (xOf (ofKey (k.set 31 (bits .andNot .u8 (k.getD 31 0) 128))) = 0)))] : List SQ) (by kernel_rfl) (by kernel_rfl) (by kernel_rfl) (by kernel_rfl) ?_ ?_
      · intro i o listed an wn ho hls hst hun hdep hI hD hpre K' hK'
        rcases slot_cases (l := [0, 1, 2, 3, 4, 5, 6, 7, 8]) rfl ho hst with rfl | rfl | rfl | rfl | rfl | rfl | rfl | rfl | rfl | ⟨⟨⟩⟩
        · obtain rfl := Option.some.inj ho
          have hvp : an.eval (.tmp 7) = .bool true := hI.oq (by kernel_rfl) rfl
          exact hI.pq hD hls rfl rfl rfl _ (run_moveQ (.inl rfl) hvp wn) (.val (.bool true)) rfl rfl rfl hK'
        · obtain rfl := Option.some.inj ho
          obtain ⟨vp, hvp, rfl⟩ := hI.hq 0 _ 27 _ rfl rfl rfl (dp hdep 0 rfl rfl)
          exact hI.pq hD hls rfl rfl rfl _ (run_not rfl (eval_of hvp) wn) (.val (.bool false)) rfl rfl rfl hK'
        · obtain rfl := Option.some.inj ho
          obtain ⟨vp, hvp, rfl⟩ := hI.hq 1 _ 28 _ rfl rfl rfl (dp hdep 0 rfl rfl)
          exact hI.pq hD hls rfl rfl rfl _ (run_moveQ (.inl rfl) (eval_of hvp) wn) (.val (.bool false)) rfl rfl rfl hK'
        · obtain rfl := Option.some.inj ho
          obtain ⟨vg, hvg, rfl⟩ := hI.hq 2 _ 29 _ rfl rfl rfl (dp hdep 0 rfl rfl)
          have hvp : an.eval (.tmp 4) = .bool true := hI.oq (by kernel_rfl) rfl
          exact hI.pq hD hls rfl (wanted_of rfl rfl rfl hvg) rfl _ (run_moveQ (.inl rfl) hvp wn) (.val (.bool true)) rfl rfl rfl hK'
        · obtain rfl := Option.some.inj ho
          obtain ⟨vg, hvg, rfl⟩ := hI.hq 2 _ 29 _ rfl rfl rfl (dp hdep 2 rfl rfl)
          obtain ⟨vp, hvp, rfl⟩ := hI.hq 3 _ 30 _ rfl rfl rfl (dp hdep 0 rfl rfl)
          exact hI.pq hD hls rfl (wanted_of rfl rfl rfl hvg) rfl _ (run_moveQ (.inl rfl) (eval_of hvp) wn) (.val (.bool true)) rfl rfl rfl hK'
        · obtain rfl := Option.some.inj ho
          obtain ⟨vg, hvg, rfl⟩ := hI.hq 4 _ 31 _ rfl rfl rfl (dp hdep 0 rfl rfl)
          have hvp : an.eval (.tmp 6) = ptrTo br6_5 := hI.oq (by kernel_rfl) rfl
          exact hI.pq hD hls rfl (wanted_of rfl rfl rfl hvg) rfl _ (run_loadQ rfl hvp wn (hI.upd.keep Bxr6y5_s6_0).out Tryd.underlying39 rfl szE (by rw [hCr6_3.size]; exact Nat.le_of_ble_eq_true rfl)) (.val (.agg ar6_3)) rfl (congrArg Value.agg (extract_all _ 5 hCr6_3.size)) rfl hK'
        · obtain rfl := Option.some.inj ho
          obtain ⟨vg, hvg, rfl⟩ := hI.hq 4 _ 31 _ rfl rfl rfl (dp hdep 2 rfl rfl)
          obtain ⟨vp, hvp, rfl⟩ := hI.hq 5 _ 32 _ rfl rfl rfl (dp hdep 0 rfl rfl)
          exact hI.cq hD hls rfl (wanted_of rfl rfl rfl hvg) rfl 62 #[.tmp 32] _ rfl #[.agg ar6_3] (by simp [eval_of hvp]) (run_enter Tryd.func62 (by kernel_rfl) (by kernel_rfl)) (.val (.bool (decide (xOf (ofKey (k.set 31 (bits .andNot .u8 (k.getD 31 0) 128))) = 0)))) rfl rfl ((isZeroE hCr6_3).mono fun _ _ h => ret_val h) hK'
        · obtain rfl := Option.some.inj ho
          obtain ⟨vg, hvg, rfl⟩ := hI.hq 2 _ 29 _ rfl rfl rfl (dp hdep 2 rfl rfl)
          obtain ⟨vp, hvp, rfl⟩ := hI.hq 4 _ 31 _ rfl rfl rfl (dp hdep 0 rfl rfl)
          obtain ⟨vq, hvq, rfl⟩ := hI.hq 6 _ 33 _ rfl rfl rfl (dp hdep 1 rfl rfl)
          exact hI.pq hD hls rfl (wanted_of rfl rfl rfl hvg) rfl _ (run_pickT rfl (eval_of hvp) (eval_of hvq) wn) (.val (.bool (decide (xOf (ofKey (k.set 31 (bits .andNot .u8 (k.getD 31 0) 128))) = 0)))) rfl rfl rfl hK'
        · obtain rfl := Option.some.inj ho
          obtain ⟨vp, hvp, rfl⟩ := hI.hq 2 _ 29 _ rfl rfl rfl (dp hdep 0 rfl rfl)
          obtain ⟨vq, hvq, rfl⟩ := hI.hq 7 _ 34 _ rfl rfl rfl (dp hdep 1 rfl rfl)
          exact hI.pq hD hls rfl rfl rfl _ (run_pickF rfl (eval_of hvp) (eval_of hvq) wn) (.val (.bool (decide (xOf (ofKey (k.set 31 (bits .andNot .u8 (k.getD 31 0) 128))) = 0)))) rfl rfl rfl hK'
      intro an w8 hI
      obtain ⟨vr7_0, hvr7_0, rfl⟩ := hI.hq 0 _ 27 _ rfl rfl rfl rfl
      obtain ⟨vr7_1, hvr7_1, rfl⟩ := hI.hq 1 _ 28 _ rfl rfl rfl rfl
      obtain ⟨vr7_2, hvr7_2, rfl⟩ := hI.hq 2 _ 29 _ rfl rfl rfl rfl
      obtain ⟨vr7_3, hvr7_3, rfl⟩ := hI.hq 3 _ 30 _ rfl rfl rfl rfl
      obtain ⟨vr7_4, hvr7_4, rfl⟩ := hI.hq 4 _ 31 _ rfl rfl rfl rfl
      obtain ⟨vr7_5, hvr7_5, rfl⟩ := hI.hq 5 _ 32 _ rfl rfl rfl rfl
      obtain ⟨vr7_6, hvr7_6, rfl⟩ := hI.hq 6 _ 33 _ rfl rfl rfl rfl
      obtain ⟨vr7_7, hvr7_7, rfl⟩ := hI.hq 7 _ 34 _ rfl rfl rfl rfl
      obtain ⟨vr7_8, hvr7_8, rfl⟩ := hI.hq 8 _ 35 _ rfl rfl rfl rfl
      have hupd := hI.upd
      have ha := hI.act [(27, .bool true), (28, .bool false), (29, .bool false), (30, .bool true), (31, .bool true), (32, .agg ar6_3), (33, .bool (decide (xOf (ofKey (k.set 31 (bits .andNot .u8 (k.getD 31 0) 128))) = 0))), (34, .bool (decide (xOf (ofKey (k.set 31 (bits .andNot .u8 (k.getD 31 0) 128))) = 0))), (35, .bool (decide (xOf (ofKey (k.set 31 (bits .andNot .u8 (k.getD 31 0) 128))) = 0)))] (by simp [hvr7_0, hvr7_1, hvr7_2, hvr7_3, hvr7_4, hvr7_5, hvr7_6, hvr7_7, hvr7_8]) (by kernel_rfl)
      clear hI hvr7_0 hvr7_1 hvr7_2 hvr7_3 hvr7_4 hvr7_5 hvr7_6 hvr7_7 hvr7_8
      subst ha
      simp only [List.foldl_cons, List.foldl_nil, List.setIfInBounds_toArray, List.set_cons_zero, List.set_cons_succ]
      have Bxr0y0_7 := hupd.keep Bxr0y0_s6_0
      have Bxr0y1_7 := hupd.keep Bxr0y1_s6_0
      have Bxr5y2_7 := hupd.keep Bxr5y2_s6_0
      have Bxr6y5_7 := hupd.keep Bxr6y5_s6_0
      have HU7 := hh (HU6_0.out.trans hupd)
      clear hupd
      refine wpOps_nil ?_
      refine hK11 _ _ ?_
      clear hK11
      refine wp_cond_split (t := (decide (xOf (ofKey (k.set 31 (bits .andNot .u8 (k.getD 31 0) 128))) = 0))) rfl (fun hcd => ?_) (fun hcd => ?_)
      · have Hcd14 := hh hcd
        clear hcd
        refine wp_seq_k fun K15 hK15 => ?_
        refine wp_region_qSD 1 #[true, false, false] [1, 2] ([.val (.agg zPt), .val undef, .val undef] : List SQ) (by kernel_rfl) (by kernel_rfl) (by kernel_rfl) (by kernel_rfl) ?_ ?_
        · intro i o listed an wn ho hls hst hun hdep hI hD hpre K' hK'
          rcases slot_cases (l := [0]) rfl ho hst with rfl | ⟨⟨⟩⟩
          · obtain rfl := Option.some.inj ho
            exact hI.pq hD hls rfl rfl rfl _ (run_buildPt0 rfl wn) (.val (.agg zPt)) rfl rfl rfl hK'
        intro an w9 hI
        obtain ⟨vr8_0, hvr8_0, rfl⟩ := hI.hq 0 _ 36 _ rfl rfl rfl rfl
        have hupd := hI.upd
        have ha := hI.act [(36, .agg zPt)] (by simp [hvr8_0]) (by kernel_rfl)
        clear hI hvr8_0
        subst ha
        simp only [List.foldl_cons, List.foldl_nil, List.setIfInBounds_toArray, List.set_cons_zero, List.set_cons_succ]
        have Bxr0y0_8 := hupd.keep Bxr0y0_7
        have Bxr0y1_8 := hupd.keep Bxr0y1_7
        have Bxr5y2_8 := hupd.keep Bxr5y2_7
        have Bxr6y5_8 := hupd.keep Bxr6y5_7
        have HU8 := hh (HU7.out.trans hupd)
        clear hupd
        refine wpOps_storeQ 1 rfl rfl rfl 41 (.tmp 2) (.tmp 36) rfl br0_1 0 20 rfl zPt rfl 41 zr0_1 Bxr0y1_8.out szPt zPt_ch.size (by rw [hzr0_1.size]; exact Nat.le_of_ble_eq_true rfl) zPt_ch.one' ?_
        intro ws8_0 hs8_0 hus8_0
        rw [splice_all _ _ 20 hzr0_1.size zPt_ch.size] at hs8_0
        have Bxr0y0_s8_0 := hus8_0.keepS Bxr0y0_8 (fun e => hner0_0_r0_1.out e)
        have Bxr5y2_s8_0 := hus8_0.keepS Bxr5y2_8 (fun e => hner5_2_Bxr0y1_3.out e)
        have Bxr6y5_s8_0 := hus8_0.keepS Bxr6y5_8 (fun e => hner6_5_Bxr0y1_s5_0.out e)
        have Bxr0y1_s8_0 := hh hs8_0
        have HU8_0 := hh (HU8.out.step hus8_0 (fun i hi h => absurd hi (Nat.not_lt.2 (h.symm ▸ hger0_1.out))))
        clear hs8_0 hus8_0
        refine wpOps_pureQ 2 rfl rfl 3 rfl (.int .i64 60) (run_moveQ (x := .const (.int .i64 60)) (v := .int .i64 60) (.inr rfl) rfl _) ?_
        simp only [List.setIfInBounds_toArray, List.set_cons_zero, List.set_cons_succ]
        refine wpOps_nil ?_
        refine hK15 _ _ ?_
        clear hK15
        refine wp_ret ?_
        try dsimp only [Exit.then]
        try dsimp only [Exit.inBlock]
        exact bodyPost_ret (v := .tuple #[.agg zPt, .int .i64 60]) (results_cell_tmpQ (fn := Tryd.f24) (p := 2) (q := 3) (ty := 41) rfl _ _ br0_1 zPt (.int .i64 60) rfl rfl Bxr0y1_s8_0.out Tryd.underlying41 rfl (by rw [zPt_ch.size]; exact szPt)) rfl ⟨_, .inl ⟨rfl, zPt_ch, noC Hsp13.out Hcd14.out⟩, HU8_0.out⟩
      have Hcd16 := hh hcd
      clear hcd
      refine wp_skip ?_
      refine hK10 _ _ ?_
      clear hK10
      refine wp_seq_k fun K17 hK17 => ?_
      refine wp_seq_k fun K18 hK18 => ?_
      refine wp_region_qSD 1 #[true] [] ([.val (.bool true)] : List SQ) (by kernel_rfl) (by kernel_rfl) (by kernel_rfl) (by kernel_rfl) ?_ ?_
      · intro i o listed an wn ho hls hst hun hdep hI hD hpre K' hK'
        rcases slot_cases (l := [0]) rfl ho hst with rfl | ⟨⟨⟩⟩
        · obtain rfl := Option.some.inj ho
          have hvp : an.eval (.tmp 4) = .bool true := hI.oq (by kernel_rfl) rfl
          exact hI.pq hD hls rfl rfl rfl _ (run_moveQ (.inl rfl) hvp wn) (.val (.bool true)) rfl rfl rfl hK'
      intro an w10 hI
      obtain ⟨vr9_0, hvr9_0, rfl⟩ := hI.hq 0 _ 37 _ rfl rfl rfl rfl
      have hupd := hI.upd
      have ha := hI.act [(37, .bool true)] (by simp [hvr9_0]) (by kernel_rfl)
      clear hI hvr9_0
      subst ha
      simp only [List.foldl_cons, List.foldl_nil, List.setIfInBounds_toArray, List.set_cons_zero, List.set_cons_succ]
      have Bxr0y0_9 := hupd.keep Bxr0y0_7
      have Bxr0y1_9 := hupd.keep Bxr0y1_7
      have Bxr5y2_9 := hupd.keep Bxr5y2_7
      have Bxr6y5_9 := hupd.keep Bxr6y5_7
      have HU9 := hh (HU7.out.trans hupd)
      clear hupd
      refine wpOps_nil ?_
      refine hK18 _ _ ?_
      clear hK18
      refine wp_cond_true rfl ?_
      refine wp_region_qSD 2 #[true, true, false] [2] ([.val (.agg ar6_3), .like (IsC 5 RE [-(xOf (ofKey (k.set 31 (bits .andNot .u8 (k.getD 31 0) 128))))]), .val undef] : List SQ) (by kernel_rfl) (by kernel_rfl) (by kernel_rfl) (by kernel_rfl) ?_ ?_
      · intro i o listed an wn ho hls hst hun hdep hI hD hpre K' hK'
        rcases slot_cases (l := [0, 1]) rfl ho hst with rfl | rfl | ⟨⟨⟩⟩
        · obtain rfl := Option.some.inj ho
          have hvp : an.eval (.tmp 6) = ptrTo br6_5 := hI.oq (by kernel_rfl) rfl
          exact hI.pq hD hls rfl rfl rfl _ (run_loadQ rfl hvp wn (hI.upd.keep Bxr6y5_9).out Tryd.underlying39 rfl szE (by rw [hCr6_3.size]; exact Nat.le_of_ble_eq_true rfl)) (.val (.agg ar6_3)) rfl (congrArg Value.agg (extract_all _ 5 hCr6_3.size)) rfl hK'
        · obtain rfl := Option.some.inj ho
          obtain ⟨vp, hvp, rfl⟩ := hI.hq 0 _ 38 _ rfl rfl rfl (dp hdep 0 rfl rfl)
          exact hI.cq hD hls rfl rfl rfl 63 #[.tmp 38] _ rfl #[.agg ar6_3] (by simp [eval_of hvp]) (run_enter Tryd.func63 (by kernel_rfl) (by kernel_rfl)) (.like (IsC 5 RE [-(xOf (ofKey (k.set 31 (bits .andNot .u8 (k.getD 31 0) 128))))])) rfl rfl ((negE (HT.out.upd (HU9.out.trans hI.upd)) hCr6_3).mono fun _ _ h => h.sq) hK'
      intro an w11 hI
      obtain ⟨vr10_0, hvr10_0, rfl⟩ := hI.hq 0 _ 38 _ rfl rfl rfl rfl
      obtain ⟨vr10_1, hvr10_1, ar10_1, rfl, hCr10_1⟩ := hI.hq 1 _ 39 _ rfl rfl rfl rfl
      have hupd := hI.upd
      have ha := hI.act [(38, .agg ar6_3), (39, .agg ar10_1)] (by simp [hvr10_0, hvr10_1]) (by kernel_rfl)
      clear hI hvr10_0 hvr10_1
      subst ha
      simp only [List.foldl_cons, List.foldl_nil, List.setIfInBounds_toArray, List.set_cons_zero, List.set_cons_succ]
      have Bxr0y0_10 := hupd.keep Bxr0y0_9
      have Bxr0y1_10 := hupd.keep Bxr0y1_9
      have Bxr5y2_10 := hupd.keep Bxr5y2_9
      have Bxr6y5_10 := hupd.keep Bxr6y5_9
      have HU10 := hh (HU9.out.trans hupd)
      clear hupd
      refine wpOps_storeQ 2 rfl rfl rfl 39 (.tmp 6) (.tmp 39) rfl br6_5 0 5 rfl ar10_1 rfl 39 ar6_3 Bxr6y5_10.out szE hCr10_1.size (by rw [hCr6_3.size]; exact Nat.le_of_ble_eq_true rfl) hCr10_1.one' ?_
      intro ws10_0 hs10_0 hus10_0
      rw [splice_all _ _ 5 hCr6_3.size hCr10_1.size] at hs10_0
      have Bxr0y0_s10_0 := hus10_0.keepS Bxr0y0_10 (fun e => hner6_5_Bxr0y0_s5_0.out e.symm)
      have Bxr0y1_s10_0 := hus10_0.keepS Bxr0y1_10 (fun e => hner6_5_Bxr0y1_s5_0.out e.symm)
      have Bxr5y2_s10_0 := hus10_0.keepS Bxr5y2_10 (fun e => hner6_5_Bxr5y2_s5_0.out e.symm)
      have Bxr6y5_s10_0 := hh hs10_0
      have HU10_0 := hh (HU10.out.step hus10_0 (fun i hi h => absurd hi (Nat.not_lt.2 (h.symm ▸ hger6_5.out))))
      clear hs10_0 hus10_0
      refine wpOps_nil ?_
      refine hK17 _ _ ?_
      clear hK17
      refine wp_seq_k fun K19 hK19 => ?_
      refine wp_region_qSD 3 #[true, true, true, false, false] [3, 4] ([.val (.agg ar10_1), .val (.agg ar5_1), .like (IsC 5 RE [-(xOf (ofKey (k.set 31 (bits .andNot .u8 (k.getD 31 0) 128)))), ofKey (k.set 31 (bits .andNot .u8 (k.getD 31 0) 128)), fv 1, (-(xOf (ofKey (k.set 31 (bits .andNot .u8 (k.getD 31 0) 128))))) * (ofKey (k.set 31 (bits .andNot .u8 (k.getD 31 0) 128)))]), .val undef, .val undef] : List SQ) (by kernel_rfl) (by kernel_rfl) (by kernel_rfl) (by kernel_rfl) ?_ ?_
      · intro i o listed an wn ho hls hst hun hdep hI hD hpre K' hK'
        rcases slot_cases (l := [0, 1, 2]) rfl ho hst with rfl | rfl | rfl | ⟨⟨⟩⟩
        · obtain rfl := Option.some.inj ho
          have hvp : an.eval (.tmp 6) = ptrTo br6_5 := hI.oq (by kernel_rfl) rfl
          exact hI.pq hD hls rfl rfl rfl _ (run_loadQ rfl hvp wn (hI.upd.keep Bxr6y5_s10_0).out Tryd.underlying39 rfl szE (by rw [hCr10_1.size]; exact Nat.le_of_ble_eq_true rfl)) (.val (.agg ar10_1)) rfl (congrArg Value.agg (extract_all _ 5 hCr10_1.size)) rfl hK'
        · obtain rfl := Option.some.inj ho
          have hvp : an.eval (.tmp 5) = ptrTo br5_2 := hI.oq (by kernel_rfl) rfl
          exact hI.pq hD hls rfl rfl rfl _ (run_loadQ rfl hvp wn (hI.upd.keep Bxr5y2_s10_0).out Tryd.underlying39 rfl szE (by rw [hCr5_1.size]; exact Nat.le_of_ble_eq_true rfl)) (.val (.agg ar5_1)) rfl (congrArg Value.agg (extract_all _ 5 hCr5_1.size)) rfl hK'
        · obtain rfl := Option.some.inj ho
          obtain ⟨vp, hvp, rfl⟩ := hI.hq 0 _ 40 _ rfl rfl rfl (dp hdep 0 rfl rfl)
          obtain ⟨vq, hvq, rfl⟩ := hI.hq 1 _ 41 _ rfl rfl rfl (dp hdep 1 rfl rfl)
          exact hI.cq hD hls rfl rfl rfl 64 #[.tmp 40, .tmp 41] _ rfl #[.agg ar10_1, .agg ar5_1] (by simp [eval_of hvp, eval_of hvq]) (run_enter Tryd.func64 (by kernel_rfl) (by kernel_rfl)) (.like (IsC 5 RE [-(xOf (ofKey (k.set 31 (bits .andNot .u8 (k.getD 31 0) 128)))), ofKey (k.set 31 (bits .andNot .u8 (k.getD 31 0) 128)), fv 1, (-(xOf (ofKey (k.set 31 (bits .andNot .u8 (k.getD 31 0) 128))))) * (ofKey (k.set 31 (bits .andNot .u8 (k.getD 31 0) 128)))])) rfl rfl ((ofP _ hCr10_1 hCr5_1).mono fun _ _ h => h.sq) hK'
      intro an w12 hI
      obtain ⟨vr11_0, hvr11_0, rfl⟩ := hI.hq 0 _ 40 _ rfl rfl rfl rfl
      obtain ⟨vr11_1, hvr11_1, rfl⟩ := hI.hq 1 _ 41 _ rfl rfl rfl rfl
      obtain ⟨vr11_2, hvr11_2, ar11_2, rfl, hCr11_2⟩ := hI.hq 2 _ 42 _ rfl rfl rfl rfl
      have hupd := hI.upd
      have ha := hI.act [(40, .agg ar10_1), (41, .agg ar5_1), (42, .agg ar11_2)] (by simp [hvr11_0, hvr11_1, hvr11_2]) (by kernel_rfl)
      clear hI hvr11_0 hvr11_1 hvr11_2
      subst ha
      simp only [List.foldl_cons, List.foldl_nil, List.setIfInBounds_toArray, List.set_cons_zero, List.set_cons_succ]
      have Bxr0y0_11 := hupd.keep Bxr0y0_s10_0
      have Bxr0y1_11 := hupd.keep Bxr0y1_s10_0
      have Bxr5y2_11 := hupd.keep Bxr5y2_s10_0
      have Bxr6y5_11 := hupd.keep Bxr6y5_s10_0
      have HU11 := hh (HU10_0.out.trans hupd)
      clear hupd
      refine wpOps_storeQ 3 rfl rfl rfl 41 (.tmp 2) (.tmp 42) rfl br0_1 0 20 rfl ar11_2 rfl 41 zr0_1 Bxr0y1_11.out szPt hCr11_2.size (by rw [hzr0_1.size]; exact Nat.le_of_ble_eq_true rfl) hCr11_2.one' ?_
      intro ws11_0 hs11_0 hus11_0
      rw [splice_all _ _ 20 hzr0_1.size hCr11_2.size] at hs11_0
      have Bxr0y0_s11_0 := hus11_0.keepS Bxr0y0_11 (fun e => hner0_0_r0_1.out e)
      have Bxr5y2_s11_0 := hus11_0.keepS Bxr5y2_11 (fun e => hner5_2_Bxr0y1_3.out e)
      have Bxr6y5_s11_0 := hus11_0.keepS Bxr6y5_11 (fun e => hner6_5_Bxr0y1_s5_0.out e)
      have Bxr0y1_s11_0 := hh hs11_0
      have HU11_0 := hh (HU11.out.step hus11_0 (fun i hi h => absurd hi (Nat.not_lt.2 (h.symm ▸ hger0_1.out))))
      clear hs11_0 hus11_0
      refine wpOps_pureQ 4 rfl rfl 3 rfl (.int .i64 0) (run_moveQ (x := .const (.int .i64 0)) (v := .int .i64 0) (.inr rfl) rfl _) ?_
      simp only [List.setIfInBounds_toArray, List.set_cons_zero, List.set_cons_succ]
      refine wpOps_nil ?_
      refine hK19 _ _ ?_
      clear hK19
      refine wp_ret ?_
      try dsimp only [Exit.then]
      try dsimp only [Exit.inBlock]
      exact bodyPost_ret (v := .tuple #[.agg ar11_2, .int .i64 0]) (results_cell_tmpQ (fn := Tryd.f24) (p := 2) (q := 3) (ty := 41) rfl _ _ br0_1 ar11_2 (.int .i64 0) rfl rfl Bxr0y1_s11_0.out Tryd.underlying41 rfl (by rw [hCr11_2.size]; exact szPt)) rfl ⟨_, .inr ⟨_, rfl, hCr11_2, yesD Hcd7.out Hsp12.out Hsp13.out Hcd16.out⟩, HU11_0.out⟩
    have Hsp13 := hh hsp13
    rw [hsp13]
    clear hsp13
    refine wp_region_qSD 9 #[true, true, true, true, true, true, true, true, true] [] ([.val (.bool true), .val (.bool false), .val (.bool false), .val (.bool false), .val (.bool false), .val undef, .val undef, .val (.bool false), .val (.bool false)] : List SQ) (by kernel_rfl) (by kernel_rfl) (by kernel_rfl) (by kernel_rfl) ?_ ?_
    · intro i o listed an wn ho hls hst hun hdep hI hD hpre K' hK'
      rcases slot_cases (l := [0, 1, 2, 3, 4, 5, 6, 7, 8]) rfl ho hst with rfl | rfl | rfl | rfl | rfl | rfl | rfl | rfl | rfl | ⟨⟨⟩⟩
      · obtain rfl := Option.some.inj ho
        have hvp : an.eval (.tmp 7) = .bool true := hI.oq (by kernel_rfl) rfl
        exact hI.pq hD hls rfl rfl rfl _ (run_moveQ (.inl rfl) hvp wn) (.val (.bool true)) rfl rfl rfl hK'
      · obtain rfl := Option.some.inj ho
        obtain ⟨vp, hvp, rfl⟩ := hI.hq 0 _ 27 _ rfl rfl rfl (dp hdep 0 rfl rfl)
        exact hI.pq hD hls rfl rfl rfl _ (run_not rfl (eval_of hvp) wn) (.val (.bool false)) rfl rfl rfl hK'
      · obtain rfl := Option.some.inj ho
        obtain ⟨vp, hvp, rfl⟩ := hI.hq 1 _ 28 _ rfl rfl rfl (dp hdep 0 rfl rfl)
        exact hI.pq hD hls rfl rfl rfl _ (run_moveQ (.inl rfl) (eval_of hvp) wn) (.val (.bool false)) rfl rfl rfl hK'
      · obtain rfl := Option.some.inj ho
        obtain ⟨vg, hvg, rfl⟩ := hI.hq 2 _ 29 _ rfl rfl rfl (dp hdep 0 rfl rfl)
        have hvp : an.eval (.tmp 4) = .bool false := hI.oq (by kernel_rfl) rfl
        exact hI.pq hD hls rfl (wanted_of rfl rfl rfl hvg) rfl _ (run_moveQ (.inl rfl) hvp wn) (.val (.bool false)) rfl rfl rfl hK'
      · obtain rfl := Option.some.inj ho
        obtain ⟨vg, hvg, rfl⟩ := hI.hq 2 _ 29 _ rfl rfl rfl (dp hdep 2 rfl rfl)
        obtain ⟨vp, hvp, rfl⟩ := hI.hq 3 _ 30 _ rfl rfl rfl (dp hdep 0 rfl rfl)
        exact hI.pq hD hls rfl (wanted_of rfl rfl rfl hvg) rfl _ (run_moveQ (.inl rfl) (eval_of hvp) wn) (.val (.bool false)) rfl rfl rfl hK'
      · obtain rfl := Option.some.inj ho
        obtain ⟨vg, hvg, rfl⟩ := hI.hq 4 _ 31 _ rfl rfl rfl (dp hdep 0 rfl rfl)
        exact hI.skipQ hD hls rfl (wanted_notQ rfl rfl rfl hvg rfl) rfl rfl rfl hK'
      · obtain rfl := Option.some.inj ho
        obtain ⟨vg, hvg, rfl⟩ := hI.hq 4 _ 31 _ rfl rfl rfl (dp hdep 2 rfl rfl)
        exact hI.skipQ hD hls rfl (wanted_notQ rfl rfl rfl hvg rfl) rfl rfl rfl hK'
      · obtain rfl := Option.some.inj ho
        obtain ⟨vg, hvg, rfl⟩ := hI.hq 2 _ 29 _ rfl rfl rfl (dp hdep 2 rfl rfl)
        obtain ⟨vp, hvp, rfl⟩ := hI.hq 4 _ 31 _ rfl rfl rfl (dp hdep 0 rfl rfl)
        exact hI.pq hD hls rfl (wanted_of rfl rfl rfl hvg) rfl _ (run_pickF rfl (eval_of hvp) (show an.eval (.const (.bool false)) = .bool false from rfl) wn) (.val (.bool false)) rfl rfl rfl hK'
      · obtain rfl := Option.some.inj ho
        obtain ⟨vp, hvp, rfl⟩ := hI.hq 2 _ 29 _ rfl rfl rfl (dp hdep 0 rfl rfl)
        obtain ⟨vq, hvq, rfl⟩ := hI.hq 7 _ 34 _ rfl rfl rfl (dp hdep 1 rfl rfl)
        exact hI.pq hD hls rfl rfl rfl _ (run_pickF rfl (eval_of hvp) (eval_of hvq) wn) (.val (.bool false)) rfl rfl rfl hK'
    intro an w13 hI
    obtain ⟨vr12_0, hvr12_0, rfl⟩ := hI.hq 0 _ 27 _ rfl rfl rfl rfl
    obtain ⟨vr12_1, hvr12_1, rfl⟩ := hI.hq 1 _ 28 _ rfl rfl rfl rfl
    obtain ⟨vr12_2, hvr12_2, rfl⟩ := hI.hq 2 _ 29 _ rfl rfl rfl rfl
    obtain ⟨vr12_3, hvr12_3, rfl⟩ := hI.hq 3 _ 30 _ rfl rfl rfl rfl
    obtain ⟨vr12_4, hvr12_4, rfl⟩ := hI.hq 4 _ 31 _ rfl rfl rfl rfl
    obtain ⟨vr12_5, hvr12_5, rfl⟩ := hI.hq 5 _ 32 _ rfl rfl rfl rfl
    obtain ⟨vr12_6, hvr12_6, rfl⟩ := hI.hq 6 _ 33 _ rfl rfl rfl rfl
    obtain ⟨vr12_7, hvr12_7, rfl⟩ := hI.hq 7 _ 34 _ rfl rfl rfl rfl
    obtain ⟨vr12_8, hvr12_8, rfl⟩ := hI.hq 8 _ 35 _ rfl rfl rfl rfl
    have hupd := hI.upd
    have ha := hI.act [(27, .bool true), (28, .bool false), (29, .bool false), (30, .bool false), (31, .bool false), (32, undef), (33, undef), (34, .bool false), (35, .bool false)] (by simp [hvr12_0, hvr12_1, hvr12_2, hvr12_3, hvr12_4, hvr12_5, hvr12_6, hvr12_7, hvr12_8]) (by kernel_rfl)
    clear hI hvr12_0 hvr12_1 hvr12_2 hvr12_3 hvr12_4 hvr12_5 hvr12_6 hvr12_7 hvr12_8
    subst ha
    simp only [List.foldl_cons, List.foldl_nil, List.setIfInBounds_toArray, List.set_cons_zero, List.set_cons_succ]
    have Bxr0y0_12 := hupd.keep Bxr0y0_s6_0
    have Bxr0y1_12 := hupd.keep Bxr0y1_s6_0
    have Bxr5y2_12 := hupd.keep Bxr5y2_s6_0
    have Bxr6y5_12 := hupd.keep Bxr6y5_s6_0
    have HU12 := hh (HU6_0.out.trans hupd)
    clear hupd
    refine wpOps_nil ?_
    refine hK11 _ _ ?_
    clear hK11
    refine wp_cond_false rfl ?_
    refine wp_skip ?_
    refine hK10 _ _ ?_
    clear hK10
    refine wp_seq_k fun K20 hK20 => ?_
    refine wp_seq_k fun K21 hK21 => ?_
    refine wp_region_qSD 1 #[true] [] ([.val (.bool false)] : List SQ) (by kernel_rfl) (by kernel_rfl) (by kernel_rfl) (by kernel_rfl) ?_ ?_
    · intro i o listed an wn ho hls hst hun hdep hI hD hpre K' hK'
      rcases slot_cases (l := [0]) rfl ho hst with rfl | ⟨⟨⟩⟩
      · obtain rfl := Option.some.inj ho
        have hvp : an.eval (.tmp 4) = .bool false := hI.oq (by kernel_rfl) rfl
        exact hI.pq hD hls rfl rfl rfl _ (run_moveQ (.inl rfl) hvp wn) (.val (.bool false)) rfl rfl rfl hK'
    intro an w14 hI
    obtain ⟨vr13_0, hvr13_0, rfl⟩ := hI.hq 0 _ 37 _ rfl rfl rfl rfl
    have hupd := hI.upd
    have ha := hI.act [(37, .bool false)] (by simp [hvr13_0]) (by kernel_rfl)
    clear hI hvr13_0
    subst ha
    simp only [List.foldl_cons, List.foldl_nil, List.setIfInBounds_toArray, List.set_cons_zero, List.set_cons_succ]
    have Bxr0y0_13 := hupd.keep Bxr0y0_12
    have Bxr0y1_13 := hupd.keep Bxr0y1_12
    have Bxr5y2_13 := hupd.keep Bxr5y2_12
    have Bxr6y5_13 := hupd.keep Bxr6y5_12
    have HU13 := hh (HU12.out.trans hupd)
    clear hupd
    refine wpOps_nil ?_
    refine hK21 _ _ ?_
    clear hK21
    refine wp_cond_false rfl ?_
    refine wp_skip ?_
    refine hK20 _ _ ?_
    clear hK20
    refine wp_seq_k fun K22 hK22 => ?_
    refine wp_region_qSD 3 #[true, true, true, false, false] [3, 4] ([.val (.agg ar6_3), .val (.agg ar5_1), .like (IsC 5 RE [xOf (ofKey (k.set 31 (bits .andNot .u8 (k.getD 31 0) 128))), ofKey (k.set 31 (bits .andNot .u8 (k.getD 31 0) 128)), fv 1, (xOf (ofKey (k.set 31 (bits .andNot .u8 (k.getD 31 0) 128)))) * (ofKey (k.set 31 (bits .andNot .u8 (k.getD 31 0) 128)))]), .val undef, .val undef] : List SQ) (by kernel_rfl) (by kernel_rfl) (by kernel_rfl) (by kernel_rfl) ?_ ?_
    · intro i o listed an wn ho hls hst hun hdep hI hD hpre K' hK'
      rcases slot_cases (l := [0, 1, 2]) rfl ho hst with rfl | rfl | rfl | ⟨⟨⟩⟩
      · obtain rfl := Option.some.inj ho
        have hvp : an.eval (.tmp 6) = ptrTo br6_5 := hI.oq (by kernel_rfl) rfl
        exact hI.pq hD hls rfl rfl rfl _ (run_loadQ rfl hvp wn (hI.upd.keep Bxr6y5_13).out Tryd.underlying39 rfl szE (by rw [hCr6_3.size]; exact Nat.le_of_ble_eq_true rfl)) (.val (.agg ar6_3)) rfl (congrArg Value.agg (extract_all _ 5 hCr6_3.size)) rfl hK'
      · obtain rfl := Option.some.inj ho
        have hvp : an.eval (.tmp 5) = ptrTo br5_2 := hI.oq (by kernel_rfl) rfl
        exact hI.pq hD hls rfl rfl rfl _ (run_loadQ rfl hvp wn (hI.upd.keep Bxr5y2_13).out Tryd.underlying39 rfl szE (by rw [hCr5_1.size]; exact Nat.le_of_ble_eq_true rfl)) (.val (.agg ar5_1)) rfl (congrArg Value.agg (extract_all _ 5 hCr5_1.size)) rfl hK'
      · obtain rfl := Option.some.inj ho
        obtain ⟨vp, hvp, rfl⟩ := hI.hq 0 _ 40 _ rfl rfl rfl (dp hdep 0 rfl rfl)
        obtain ⟨vq, hvq, rfl⟩ := hI.hq 1 _ 41 _ rfl rfl rfl (dp hdep 1 rfl rfl)
        exact hI.cq hD hls rfl rfl rfl 64 #[.tmp 40, .tmp 41] _ rfl #[.agg ar6_3, .agg ar5_1] (by simp [eval_of hvp, eval_of hvq]) (run_enter Tryd.func64 (by kernel_rfl) (by kernel_rfl)) (.like (IsC 5 RE [xOf (ofKey (k.set 31 (bits .andNot .u8 (k.getD 31 0) 128))), ofKey (k.set 31 (bits .andNot .u8 (k.getD 31 0) 128)), fv 1, (xOf (ofKey (k.set 31 (bits .andNot .u8 (k.getD 31 0) 128)))) * (ofKey (k.set 31 (bits .andNot .u8 (k.getD 31 0) 128)))])) rfl rfl ((ofP _ hCr6_3 hCr5_1).mono fun _ _ h => h.sq) hK'
    intro an w15 hI
    obtain ⟨vr14_0, hvr14_0, rfl⟩ := hI.hq 0 _ 40 _ rfl rfl rfl rfl
    obtain ⟨vr14_1, hvr14_1, rfl⟩ := hI.hq 1 _ 41 _ rfl rfl rfl rfl
    obtain ⟨vr14_2, hvr14_2, ar14_2, rfl, hCr14_2⟩ := hI.hq 2 _ 42 _ rfl rfl rfl rfl
    have hupd := hI.upd
    have ha := hI.act [(40, .agg ar6_3), (41, .agg ar5_1), (42, .agg ar14_2)] (by simp [hvr14_0, hvr14_1, hvr14_2]) (by kernel_rfl)
    clear hI hvr14_0 hvr14_1 hvr14_2
    subst ha
    simp only [List.foldl_cons, List.foldl_nil, List.setIfInBounds_toArray, List.set_cons_zero, List.set_cons_succ]
    have Bxr0y0_14 := hupd.keep Bxr0y0_13
    have Bxr0y1_14 := hupd.keep Bxr0y1_13
    have Bxr5y2_14 := hupd.keep Bxr5y2_13
    have Bxr6y5_14 := hupd.keep Bxr6y5_13
    have HU14 := hh (HU13.out.trans hupd)
    clear hupd
    refine wpOps_storeQ 3 rfl rfl rfl 41 (.tmp 2) (.tmp 42) rfl br0_1 0 20 rfl ar14_2 rfl 41 zr0_1 Bxr0y1_14.out szPt hCr14_2.size (by rw [hzr0_1.size]; exact Nat.le_of_ble_eq_true rfl) hCr14_2.one' ?_
    intro ws14_0 hs14_0 hus14_0
    rw [splice_all _ _ 20 hzr0_1.size hCr14_2.size] at hs14_0
    have Bxr0y0_s14_0 := hus14_0.keepS Bxr0y0_14 (fun e => hner0_0_r0_1.out e)
    have Bxr5y2_s14_0 := hus14_0.keepS Bxr5y2_14 (fun e => hner5_2_Bxr0y1_3.out e)
    have Bxr6y5_s14_0 := hus14_0.keepS Bxr6y5_14 (fun e => hner6_5_Bxr0y1_s5_0.out e)
    have Bxr0y1_s14_0 := hh hs14_0
    have HU14_0 := hh (HU14.out.step hus14_0 (fun i hi h => absurd hi (Nat.not_lt.2 (h.symm ▸ hger0_1.out))))
    clear hs14_0 hus14_0
    refine wpOps_pureQ 4 rfl rfl 3 rfl (.int .i64 0) (run_moveQ (x := .const (.int .i64 0)) (v := .int .i64 0) (.inr rfl) rfl _) ?_
    simp only [List.setIfInBounds_toArray, List.set_cons_zero, List.set_cons_succ]
    refine wpOps_nil ?_
    refine hK22 _ _ ?_
    clear hK22
    refine wp_ret ?_
    try dsimp only [Exit.then]
    try dsimp only [Exit.inBlock]
    exact bodyPost_ret (v := .tuple #[.agg ar14_2, .int .i64 0]) (results_cell_tmpQ (fn := Tryd.f24) (p := 2) (q := 3) (ty := 41) rfl _ _ br0_1 ar14_2 (.int .i64 0) rfl rfl Bxr0y1_s14_0.out Tryd.underlying41 rfl (by rw [hCr14_2.size]; exact szPt)) rfl ⟨_, .inr ⟨_, rfl, hCr14_2, yesE Hcd7.out Hsp12.out Hsp13.out⟩, HU14_0.out⟩
  have Hsp12 := hh hsp12
  rw [hsp12]
  clear hsp12
  refine wp_region_qSD 9 #[true, true, true, true, true, true, true, true, true] [] ([.val (.bool false), .val (.bool true), .val (.bool true), .val undef, .val undef, .val undef, .val undef, .val undef, .val (.bool true)] : List SQ) (by kernel_rfl) (by kernel_rfl) (by kernel_rfl) (by kernel_rfl) ?_ ?_
  · intro i o listed an wn ho hls hst hun hdep hI hD hpre K' hK'
    rcases slot_cases (l := [0, 1, 2, 3, 4, 5, 6, 7, 8]) rfl ho hst with rfl | rfl | rfl | rfl | rfl | rfl | rfl | rfl | rfl | ⟨⟨⟩⟩
    · obtain rfl := Option.some.inj ho
      have hvp : an.eval (.tmp 7) = .bool false := hI.oq (by kernel_rfl) rfl
      exact hI.pq hD hls rfl rfl rfl _ (run_moveQ (.inl rfl) hvp wn) (.val (.bool false)) rfl rfl rfl hK'
    · obtain rfl := Option.some.inj ho
      obtain ⟨vp, hvp, rfl⟩ := hI.hq 0 _ 27 _ rfl rfl rfl (dp hdep 0 rfl rfl)
      exact hI.pq hD hls rfl rfl rfl _ (run_not rfl (eval_of hvp) wn) (.val (.bool true)) rfl rfl rfl hK'
    · obtain rfl := Option.some.inj ho
      obtain ⟨vp, hvp, rfl⟩ := hI.hq 1 _ 28 _ rfl rfl rfl (dp hdep 0 rfl rfl)
      exact hI.pq hD hls rfl rfl rfl _ (run_moveQ (.inl rfl) (eval_of hvp) wn) (.val (.bool true)) rfl rfl rfl hK'
    · obtain rfl := Option.some.inj ho
      obtain ⟨vg, hvg, rfl⟩ := hI.hq 2 _ 29 _ rfl rfl rfl (dp hdep 0 rfl rfl)
      exact hI.skipQ hD hls rfl (wanted_notQ rfl rfl rfl hvg rfl) rfl rfl rfl hK'
    · obtain rfl := Option.some.inj ho
      obtain ⟨vg, hvg, rfl⟩ := hI.hq 2 _ 29 _ rfl rfl rfl (dp hdep 2 rfl rfl)
      exact hI.skipQ hD hls rfl (wanted_notQ rfl rfl rfl hvg rfl) rfl rfl rfl hK'
    · obtain rfl := Option.some.inj ho
      obtain ⟨vg, hvg, rfl⟩ := hI.hq 4 _ 31 _ rfl rfl rfl (dp hdep 0 rfl rfl)
      exact hI.skipQ hD hls rfl (wanted_undef rfl rfl rfl hvg) rfl rfl rfl hK'
    · obtain rfl := Option.some.inj ho
      obtain ⟨vg, hvg, rfl⟩ := hI.hq 4 _ 31 _ rfl rfl rfl (dp hdep 2 rfl rfl)
      exact hI.skipQ hD hls rfl (wanted_undef rfl rfl rfl hvg) rfl rfl rfl hK'
    · obtain rfl := Option.some.inj ho
      obtain ⟨vg, hvg, rfl⟩ := hI.hq 2 _ 29 _ rfl rfl rfl (dp hdep 2 rfl rfl)
      exact hI.skipQ hD hls rfl (wanted_notQ rfl rfl rfl hvg rfl) rfl rfl rfl hK'
    · obtain rfl := Option.some.inj ho
      obtain ⟨vp, hvp, rfl⟩ := hI.hq 2 _ 29 _ rfl rfl rfl (dp hdep 0 rfl rfl)
      exact hI.pq hD hls rfl rfl rfl _ (run_pickT rfl (eval_of hvp) (show an.eval (.const (.bool true)) = .bool true from rfl) wn) (.val (.bool true)) rfl rfl rfl hK'
  intro an w16 hI
  obtain ⟨vr15_0, hvr15_0, rfl⟩ := hI.hq 0 _ 27 _ rfl rfl rfl rfl
  obtain ⟨vr15_1, hvr15_1, rfl⟩ := hI.hq 1 _ 28 _ rfl rfl rfl rfl
  obtain ⟨vr15_2, hvr15_2, rfl⟩ := hI.hq 2 _ 29 _ rfl rfl rfl rfl
  obtain ⟨vr15_3, hvr15_3, rfl⟩ := hI.hq 3 _ 30 _ rfl rfl rfl rfl
  obtain ⟨vr15_4, hvr15_4, rfl⟩ := hI.hq 4 _ 31 _ rfl rfl rfl rfl
  obtain ⟨vr15_5, hvr15_5, rfl⟩ := hI.hq 5 _ 32 _ rfl rfl rfl rfl
  obtain ⟨vr15_6, hvr15_6, rfl⟩ := hI.hq 6 _ 33 _ rfl rfl rfl rfl
  obtain ⟨vr15_7, hvr15_7, rfl⟩ := hI.hq 7 _ 34 _ rfl rfl rfl rfl
  obtain ⟨vr15_8, hvr15_8, rfl⟩ := hI.hq 8 _ 35 _ rfl rfl rfl rfl
  have hupd := hI.upd
  have ha := hI.act [(27, .bool false), (28, .bool true), (29, .bool true), (30, undef), (31, undef), (32, undef), (33, undef), (34, undef), (35, .bool true)] (by simp [hvr15_0, hvr15_1, hvr15_2, hvr15_3, hvr15_4, hvr15_5, hvr15_6, hvr15_7, hvr15_8]) (by kernel_rfl)
  clear hI hvr15_0 hvr15_1 hvr15_2 hvr15_3 hvr15_4 hvr15_5 hvr15_6 hvr15_7 hvr15_8
  subst ha
  simp only [List.foldl_cons, List.foldl_nil, List.setIfInBounds_toArray, List.set_cons_zero, List.set_cons_succ]
  have Bxr0y0_15 := hupd.keep Bxr0y0_s6_0
  have Bxr0y1_15 := hupd.keep Bxr0y1_s6_0
  have Bxr5y2_15 := hupd.keep Bxr5y2_s6_0
  have Bxr6y5_15 := hupd.keep Bxr6y5_s6_0
  have HU15 := hh (HU6_0.out.trans hupd)
  clear hupd
  refine wpOps_nil ?_
  refine hK11 _ _ ?_
  clear hK11
  refine wp_cond_true rfl ?_
  refine wp_seq_k fun K23 hK23 => ?_
  refine wp_region_qSD 1 #[true, false, false] [1, 2] ([.val (.agg zPt), .val undef, .val undef] : List SQ) (by kernel_rfl) (by kernel_rfl) (by kernel_rfl) (by kernel_rfl) ?_ ?_
  · intro i o listed an wn ho hls hst hun hdep hI hD hpre K' hK'
    rcases slot_cases (l := [0]) rfl ho hst with rfl | ⟨⟨⟩⟩
    · obtain rfl := Option.some.inj ho
      exact hI.pq hD hls rfl rfl rfl _ (run_buildPt0 rfl wn) (.val (.agg zPt)) rfl rfl rfl hK'
  intro an w17 hI
  obtain ⟨vr16_0, hvr16_0, rfl⟩ := hI.hq 0 _ 36 _ rfl rfl rfl rfl
  have hupd := hI.upd
  have ha := hI.act [(36, .agg zPt)] (by simp [hvr16_0]) (by kernel_rfl)
  clear hI hvr16_0
  subst ha
  simp only [List.foldl_cons, List.foldl_nil, List.setIfInBounds_toArray, List.set_cons_zero, List.set_cons_succ]
  have Bxr0y0_16 := hupd.keep Bxr0y0_15
  have Bxr0y1_16 := hupd.keep Bxr0y1_15
  have Bxr5y2_16 := hupd.keep Bxr5y2_15
  have Bxr6y5_16 := hupd.keep Bxr6y5_15
  have HU16 := hh (HU15.out.trans hupd)
  clear hupd
  refine wpOps_storeQ 1 rfl rfl rfl 41 (.tmp 2) (.tmp 36) rfl br0_1 0 20 rfl zPt rfl 41 zr0_1 Bxr0y1_16.out szPt zPt_ch.size (by rw [hzr0_1.size]; exact Nat.le_of_ble_eq_true rfl) zPt_ch.one' ?_
  intro ws16_0 hs16_0 hus16_0
  rw [splice_all _ _ 20 hzr0_1.size zPt_ch.size] at hs16_0
  have Bxr0y0_s16_0 := hus16_0.keepS Bxr0y0_16 (fun e => hner0_0_r0_1.out e)
  have Bxr5y2_s16_0 := hus16_0.keepS Bxr5y2_16 (fun e => hner5_2_Bxr0y1_3.out e)
  have Bxr6y5_s16_0 := hus16_0.keepS Bxr6y5_16 (fun e => hner6_5_Bxr0y1_s5_0.out e)
  have Bxr0y1_s16_0 := hh hs16_0
  have HU16_0 := hh (HU16.out.step hus16_0 (fun i hi h => absurd hi (Nat.not_lt.2 (h.symm ▸ hger0_1.out))))
  clear hs16_0 hus16_0
  refine wpOps_pureQ 2 rfl rfl 3 rfl (.int .i64 60) (run_moveQ (x := .const (.int .i64 60)) (v := .int .i64 60) (.inr rfl) rfl _) ?_
  simp only [List.setIfInBounds_toArray, List.set_cons_zero, List.set_cons_succ]
  refine wpOps_nil ?_
  refine hK23 _ _ ?_
  clear hK23
  refine wp_ret ?_
  try dsimp only [Exit.then]
  try dsimp only [Exit.inBlock]
  exact bodyPost_ret (v := .tuple #[.agg zPt, .int .i64 60]) (results_cell_tmpQ (fn := Tryd.f24) (p := 2) (q := 3) (ty := 41) rfl _ _ br0_1 zPt (.int .i64 60) rfl rfl Bxr0y1_s16_0.out Tryd.underlying41 rfl (by rw [zPt_ch.size]; exact szPt)) rfl ⟨_, .inl ⟨rfl, zPt_ch, noB Hsp12.out⟩, HU16_0.out⟩
theorem low_eq {k : List Int} (hd : Digs 256 k) : k.set 31 (bits .andNot .u8 (k.getD 31 0) 128) = lowK k := by
  unfold lowK
  rw [andN128 _ (hd.get (B := 256) (by omega) 31)]
theorem odd_eq {k : List Int} (hd : Digs 256 k) : decide (bits .and .u8 (k.getD 31 0) 128 = 0) = decide (¬ 128 ≤ k.getD 31 0) := by
  rw [and128 _ (hd.get (B := 256) (by omega) 31), decide_eq_decide]
  split <;> omega
end Go.Proofs.YtdpafemcpbhlfaaDoor
