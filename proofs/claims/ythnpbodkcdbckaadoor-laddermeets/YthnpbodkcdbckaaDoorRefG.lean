/-
  The reference's numbers: fold.
-/
import Derived.Test.YthnpbodkcdbckaaDoorRefE
import Derived.Test.YthnpbodkcdbckaaDoorAddMath
namespace Go.Proofs.YthnpbodkcdbckaaDoor
set_option maxRecDepth 100000
open Go.RowKit

theorem numAt_nums {b : Nat} {w : World} {t : TypeId} {l : List Int} (h : Blk w b t (numsA .u64 l)) : numAt b w = (dig 65536 l).toNat := by
  have h' : w.heap[b]? = some (.cells (numsA .u64 l) t (0, 0)) := h
  unfold numAt
  rw [h']
  show (dig 65536 ((numsA .u64 l).toList.map intOf)).toNat = _
  have e : (numsA .u64 l).toList.map intOf = l := by
    unfold numsA
    rw [List.map_map]
    conv => rhs; rw [← List.map_id l]
    apply List.map_congr_left
    intro x _
    rfl
  rw [e]
/-- fold's blocks: its argument, its result. -/
structure FRel (w wr : World) (M : List Int) : Prop where
  upd : Upd (fun _ => False) w wr
  d : Blk wr w.heap.size 117 (numsA .u64 M)
  res : Blk wr (w.heap.size + 1) 45 zeroN
  len : M.length = 32
theorem FRel.set {w wr : World} {M : List Int} (h : FRel w wr M) (n j : Nat) (x : Int) : FRel w ((wr.drewN n).setCell ⟨w.heap.size, j, none⟩ (.int .u64 x)) (M.set j x) := by
  refine ⟨(h.upd.drewN n).set _ (fun hb => by simp at hb), ?_, (h.res.drewN n).setOther (by simp) _, by simpa using h.len⟩
  rw [← numsA_set]
  exact (h.d.drewN n).set j _
theorem FRel.cell {w wr : World} {M : List Int} (h : FRel w wr M) (j : Nat) (hj : j < 32) : wr.cell? ⟨w.heap.size, j, none⟩ = some (.int .u64 (M.getD j 0)) := by
  rw [h.d.cell, numsA_get _ _ _ (by rw [h.len]; exact hj)]
set_option maxHeartbeats 4000000 in
theorem rfold_any (L0 : List Int) (w : World) (hl : L0.length = 32) (hs : Small40 L0) (hd : dig 65536 L0 < 65536 ^ 32) :
    Calls Tryd.prog 89 #[.agg (numsA .u64 L0)] w fun e w' => ∃ r, 0 ≤ r ∧ r < 115792089237316195423570985008687907853269984665640564039457584007913129639936 ∧ Cong r (dig 65536 L0) ∧ e = .returned (.agg (numN r)) ∧ Upd (fun _ => False) w w' := by
  have hz := zeroN_run
  have Hl := Lib.hid hl
  have Hs := Lib.hid hs
  have Hd := Lib.hid hd
  clear hl hs hd
  go_enter Tryd.func89, Tryd.ntmps89
  go_wp2
  go_loopw [] (fun wr => ∃ L : List Int, FRel w wr L ∧ Small40 L ∧ dig 65536 L < 65536 ^ 32 ∧ Cong (dig 65536 L) (dig 65536 L0)) (fun wr => numAt w.heap.size wr)
  case atStart => exact ⟨L0, ⟨((Upd.refl (fun _ => False) w).alloc _).alloc _, (Blk.at1 w _ _).alloc _, Blk.at2 w _ _ _, Hl.out⟩, Hs.out, Hd.out, Cong.refl _⟩
  case round =>
    clear Hl Hs Hd
    obtain ⟨L, hrel, hsm, hdL, hcong⟩ := hrel
    have Hm := Lib.hid (numAt_nums hrel.d)
    have HF := Lib.hid hrel
    have HS := Lib.hid hsm
    have HD := Lib.hid hdL
    have HC := Lib.hid hcong
    clear hrel hsm hdL hcong
    go_wp2
    go_loopw [3, 4] (fun c i w1 => ∃ (k : Nat) (M : List Int) (cc : Int), k ≤ 32 ∧ i = .int .i64 k ∧ c = .int .u64 cc ∧ Carry L M k cc ∧ FRel w w1 M) (fun _ i _ => 32 - (intOf i).toNat)
    case atStart => exact ⟨0, L, 0, by omega, rfl, rfl, Carry.start HF.out.len HS.out, HF.out⟩
    case round =>
      clear HF
      obtain ⟨k, M, cc, hk, rfl, rfl, hcar, hrel⟩ := hrel
      have hfr := hrel.d.frozen
      by_cases hlt : k < 32
      · have hc := hrel.cell k hlt
        have Hrel := Lib.hid hrel
        have Hnext := Lib.hid (hcar.step hlt)
        have hm := hcar.small k
        have hc0 := hcar.c0
        have hc1 := hcar.c1
        generalize M.getD k 0 = x at *
        clear hrel hcar
        go_wp2
        refine ⟨⟨k + 1, M.set k ((x + cc) % 65536), (x + cc) / 65536, by omega, by go_num, rfl, Hnext.out, Hrel.out.set 0 k _⟩, by simp [intOf]; omega⟩
      · obtain rfl : k = 32 := by omega
        have hdone := hcar.done HD.out
        have HDg := Lib.hid hdone.1
        have HE := Lib.hid hdone.2
        have HM := Lib.hid hrel
        have HSM := Lib.hid hcar.small
        clear hdone hrel hcar HS hfr
        have hsz : w.heap.size + 1 < wr.heap.size := by have := HM.out.res.lt; omega
        go_wp2_with (refine wpList_storeBlk2 rfl 45 _ _ rfl wr.heap.size 0 16 rfl zeroN rfl 45 zeroN (Blk.at1 wr _ _) sizeNum zeroN_size (by rw [zeroN_size]; omega) (numsA_one _ _) ?_; intro w2 hb2 hu2 hz2; rw [splice_all _ _ 16 zeroN_size zeroN_size] at hb2; have Hb2 := Lib.hid hb2; have Hu2 := Lib.hid hu2; clear hb2 hu2 hz2)
        have HM2 : Hid (FRel w w2 M) := ⟨(HM.out.upd.alloc _).step Hu2.out (fun i hi h => by omega), Hu2.out.blk (HM.out.d.alloc _) (show ¬ w.heap.size = wr.heap.size by omega), Hu2.out.blk (HM.out.res.alloc _) (show ¬ w.heap.size + 1 = wr.heap.size by omega), HM.out.len⟩
        clear HM Hu2
        generalize wr.heap.size = b at *
        go_loopw [7, 8] (fun o i w3 => ∃ k : Nat, k ≤ 16 ∧ i = .int .i64 k ∧ o = .bool (decide (hi M k ≠ 0)) ∧ FRel w w3 M ∧ Blk w3 b 45 (numsA .u64 (fillTo (fun j => M.getD j 0) 16 k))) (fun _ i _ => 16 - (intOf i).toNat)
        case atStart => exact ⟨0, by omega, rfl, by rw [hi_zero]; rfl, HM2.out, by rw [fillTo_zero]; exact Hb2.out⟩
        case round =>
          clear HM2 Hb2
          obtain ⟨k, hk, rfl, rfl, hrel, hbk⟩ := hrel
          have hfr := hrel.d.frozen
          have hfb := hbk.frozen
          by_cases hlt : k < 16
          · have hc := hrel.cell k (by omega)
            have hc2 : wr.cell? ⟨w.heap.size, k + 16, none⟩ = some (.int .u64 (M.getD (16 + k) 0)) := by rw [Nat.add_comm k 16]; exact hrel.cell (16 + k) (by omega)
            have hcb : wr.cell? ⟨b, k, none⟩ = some (.int .u64 ((fillTo (fun j => M.getD j 0) 16 k).getD k 0)) := by rw [hbk.cell, numsA_get _ _ _ (by rw [fillTo_length]; exact hlt)]
            have Hrel := Lib.hid hrel
            have Hbk := Lib.hid hbk
            have hm := HSM.out k
            have hm2 := HSM.out (16 + k)
            have Hov := Lib.hid (hi_over HSM.out k hlt)
            have Hset := Lib.hid (fillTo_succ (fun j => M.getD j 0) 16 k)
            generalize M.getD k 0 = x at *
            generalize M.getD (16 + k) 0 = y at *
            clear hrel hbk
            have q1 : IntKind.i64.wrap ((k : Int) + 16) = (k : Int) + 16 := IntWalk.i64_in _ (by omega)
            have q2 : ((k : Int) + 16).toNat = k + 16 := by omega
            have q3 : (0 : Int) ≤ (k : Int) + 16 := by omega
            by_cases hov : hi M k ≠ 0
            · have hdec : decide (hi M k ≠ 0) = true := by simp [hov]
              have Hdec2 : Hid (decide (hi M (k + 1) ≠ 0) = true) := by show _ = _; rw [decide_eq_true_iff]; exact Hov.out.2 (Or.inl hov)
              rw [hdec]
              clear hov hdec
              go_wp2
              have hb2 := Hbk.out.set k (.int .u64 x)
              rw [numsA_set, Hset.out] at hb2
              exact ⟨⟨k + 1, by omega, by go_num, by rw [Hdec2.out], ⟨Hrel.out.upd.set _ (fun h => by simp at h; omega), Hrel.out.d.setOther (by simp; omega) _, Hrel.out.res.setOther (by simp; omega) _, Hrel.out.len⟩, hb2⟩, by simp [intOf]; omega⟩
            · have hdec : decide (hi M k ≠ 0) = false := by simpa using hov
              rw [hdec]
              by_cases hy : y = 0
              · have Hdec2 : Hid (decide (hi M (k + 1) ≠ 0) = false) := by show _ = _; rw [decide_eq_false_iff_not]; exact fun h => (Hov.out.1 h).elim hov (fun g => g hy)
                subst hy
                clear hov hdec Hov
                go_wp2
                have hb2 := Hbk.out.set k (.int .u64 x)
                rw [numsA_set, Hset.out] at hb2
                exact ⟨⟨k + 1, by omega, by go_num, by rw [Hdec2.out], ⟨Hrel.out.upd.set _ (fun h => by simp at h; omega), Hrel.out.d.setOther (by simp; omega) _, Hrel.out.res.setOther (by simp; omega) _, Hrel.out.len⟩, hb2⟩, by simp [intOf]; omega⟩
              · have Hdec2 : Hid (decide (hi M (k + 1) ≠ 0) = true) := by show _ = _; rw [decide_eq_true_iff]; exact Hov.out.2 (Or.inr hy)
                have hyb : (y != 0) = true := by simp [hy]
                clear hov hdec Hov
                go_wp2
                have hb2 := Hbk.out.set k (.int .u64 x)
                rw [numsA_set, Hset.out] at hb2
                exact ⟨⟨k + 1, by omega, by go_num, by rw [Hdec2.out], ⟨Hrel.out.upd.set _ (fun h => by simp at h; omega), Hrel.out.d.setOther (by simp; omega) _, Hrel.out.res.setOther (by simp; omega) _, Hrel.out.len⟩, hb2⟩, by simp [intOf]; omega⟩
          · obtain rfl : k = 16 := by omega
            have Hrel := Lib.hid hrel
            have Hbk := Lib.hid hbk
            have hd16 : decide (((16 : Nat) : Int) < 16) = false := by decide
            clear hrel hbk hfr hfb
            by_cases hov : hi M 16 = 0
            · have hdec : decide (hi M 16 ≠ 0) = false := by simp [hov]
              have hlow := low_digits HDg.out Hrel.out.len hov
              rw [HE.out] at hlow
              have Hok : Hid (0 ≤ dig 65536 L ∧ dig 65536 L < 65536 ^ 16) := ⟨by rw [← HE.out]; exact small40_nonneg HSM.out, hlow.2⟩
              have hbn := Hbk.out
              rw [hlow.1] at hbn
              have Hbn := Lib.hid hbn
              have HN := Lib.hid (numN_size (dig 65536 L))
              rw [hdec]
              clear hov hdec hlow hbn Hbk
              go_wp2_with (first
                | (refine wpList_loadBlk rfl 45 _ rfl b 0 16 rfl 45 (numN (dig 65536 L)) _ Hbn.out Tryd.underlying45 rfl sizeNum (by rw [HN.out]; omega) ?_; rw [extract_all _ _ HN.out])
                | (refine wpList_storeBlk2 rfl 45 _ _ rfl (w.heap.size + 1) 0 16 rfl (numN (dig 65536 L)) rfl 45 _ Hrel.out.res sizeNum HN.out (by rw [zeroN_size]; omega) (numsA_one _ _) ?_; intro wz hbz huz hzz; rw [splice_all _ _ 16 zeroN_size HN.out] at hbz; have Hbz := Lib.hid hbz; have Huz := Lib.hid huz; clear hbz huz hzz))
              have hok := Hok.out
              rw [pow16] at hok
              exact bodyPost_ret (v := .agg (numN (dig 65536 L))) (results_cell_row (fn := Tryd.f89) (p := 2) (ty := 45) rfl _ _ (w.heap.size + 1) 45 _ (0, 0) _ rfl Hbz.out Tryd.underlying45 rfl (by rw [HN.out]; exact sizeNum)) rfl ⟨_, hok.1, hok.2, HC.out, rfl, Hrel.out.upd.step Huz.out (fun i hi h => by omega)⟩
            · have hdec : decide (hi M 16 ≠ 0) = true := by simp [hov]
              have Hov := Lib.hid hov
              rw [hdec]
              clear hov hdec Hbk
              go_wp2
              go_loopw [9] (fun i w4 => ∃ (k : Nat) (N : List Int), k ≤ 16 ∧ i = .int .i64 k ∧ Folds M N k ∧ FRel w w4 N) (fun i _ => 16 - (intOf i).toNat)
              case atStart => exact ⟨0, M, by omega, rfl, Folds.start Hrel.out.len HSM.out, Hrel.out⟩
              case round =>
                clear Hrel
                obtain ⟨k, N, hk, rfl, hfold, hrel⟩ := hrel
                have hfr := hrel.d.frozen
                by_cases hlt : k < 16
                · have c1 := hrel.cell k (by omega)
                  have c2 : wr.cell? ⟨w.heap.size, k + 16, none⟩ = some (.int .u64 (N.getD (16 + k) 0)) := by rw [Nat.add_comm k 16]; exact hrel.cell (16 + k) (by omega)
                  have Hrel := Lib.hid hrel
                  have Hnext := Lib.hid (hfold.step HDg.out hlt)
                  have hs1 := hfold.small k
                  have hs2 := hfold.small (16 + k)
                  generalize N.getD k 0 = x at *
                  generalize N.getD (16 + k) 0 = y at *
                  have q1 : IntKind.i64.wrap ((k : Int) + 16) = (k : Int) + 16 := IntWalk.i64_in _ (by omega)
                  have q2 : ((k : Int) + 16).toNat = k + 16 := by omega
                  have q3 : (0 : Int) ≤ (k : Int) + 16 := by omega
                  have q4 : IntKind.u64.wrap (38 * y) = 38 * y := IntWalk.u64_in _ (by omega)
                  have q5 : IntKind.u64.wrap (x + 38 * y) = x + 38 * y := IntWalk.u64_in _ (by omega)
                  clear hrel hfold
                  go_wp2
                  go_region
                  clear q4 q5
                  go_wp2
                  have hn := (Hrel.out.set 1 k (x + 38 * y)).set 0 (16 + k) 0
                  rw [Nat.add_comm 16 k] at hn
                  have hn2 := Hnext.out
                  rw [Nat.add_comm 16 k] at hn2
                  exact ⟨⟨k + 1, _, by omega, by go_num, hn2, hn⟩, by simp [intOf]; omega⟩
                · obtain rfl : k = 16 := by omega
                  have hd16' : decide (((16 : Nat) : Int) < 16) = false := by decide
                  have Hrel := Lib.hid hrel
                  have Hf := Lib.hid hfold
                  clear hrel hfold hfr
                  go_wp2
                  have hn0 := small40_nonneg Hf.out.small
                  have hless := Hf.out.less HSM.out Hov.out hn0
                  have hdm : dig 65536 N ≤ dig 65536 M := by
                    have := Hf.out.eq
                    have := hi_nonneg HSM.out 16 (by omega)
                    omega
                  refine ⟨⟨N, Hrel.out, Hf.out.small, ?_, ?_⟩, ?_⟩
                  · exact Int.lt_of_le_of_lt hdm (by rw [HE.out]; exact HD.out)
                  · rw [← HE.out] at HC
                    exact Hf.out.cong.trans HC.out
                  · rw [numAt_nums Hrel.out.d, Hm.out, ← HE.out]
                    exact hless
end Go.Proofs.YthnpbodkcdbckaaDoor
