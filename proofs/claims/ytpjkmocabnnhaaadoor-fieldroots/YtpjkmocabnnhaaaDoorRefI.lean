/-
  The reference's numbers: Add.
-/
import Derived.Test.YtpjkmocabnnhaaaDoorRefN
namespace Go.Proofs.YtpjkmocabnnhaaaDoor
open Go.RowKit

set_option maxHeartbeats 2000000 in
theorem rAdd_any (u v m n : Int) (w : World) (hu : NumOk u m) (hv : NumOk v n) : Calls Tryd.prog 13 #[.agg (numN u), .agg (numN v)] w (RetN (m + n) w) := by
  have hz := zeroN_run
  have hz2 := zeroD_run
  have HC := Lib.hid (Cong.add hu.2.2 hv.2.2)
  have HU := Lib.hid (dig16 u hu.1 hu.2.1)
  have HV := Lib.hid (dig16 v hv.1 hv.2.1)
  have HGA := Lib.hid (digs16 u)
  have HGB := Lib.hid (digs16 v)
  clear hu hv
  go_enter Tryd.func13, Tryd.ntmps13
  go_wp2
  go_loopw [6] (fun i wr => ∃ (k : Nat) (D : List Int), k ≤ 16 ∧ i = .int .i64 k ∧ TwoRel w wr u v D ∧ AddR (digits 65536 16 u) (digits 65536 16 v) D k) (fun i _ => 16 - (intOf i).toNat)
  case atStart => exact ⟨0, _, by omega, rfl, TwoRel.start w u v, AddR.start _ _⟩
  case round =>
    obtain ⟨k, D, hk, rfl, hrel, hadd⟩ := hrel
    have hfr := hrel.d.frozen
    by_cases hlt : k < 16
    · have c1 := hrel.cell k (by omega)
      have c2 := hrel.cellA k hlt
      have c3 := hrel.cellB k hlt
      have ha := HGA.out.get (B := 65536) (by omega) k
      have hb := HGB.out.get (B := 65536) (by omega) k
      have Hrel := Lib.hid hrel
      have Hnext := Lib.hid (hadd.step hlt HGA.out HGB.out)
      generalize (digits 65536 16 u).getD k 0 = x at *
      generalize (digits 65536 16 v).getD k 0 = y at *
      have q5 : IntKind.u64.wrap (x + y) = x + y := IntWalk.u64_in _ (by omega)
      clear hrel hadd ha hb
      go_wp2
      go_region
      clear q5 c1 c2 c3
      go_wp2
      exact ⟨⟨k + 1, _, by omega, by go_num, Hrel.out.set 1 k _, Hnext.out⟩, by simp [intOf]; omega⟩
    · obtain rfl : k = 16 := by omega
      have hdone := hadd.done HGA.out HGB.out (digits_length _ _ _) (digits_length _ _ _)
      rw [HU.out, HV.out] at hdone
      have Hrel := Lib.hid hrel
      have HD := Lib.hid hdone
      have HSm := Lib.hid hadd.small
      clear hrel hadd hdone hfr
      have hd16 : decide (((16 : Nat) : Int) < 16) = false := by decide
      have HS : Hid ((numsA .u64 D).size = 32) := by show _ = _; rw [numsA_size]; exact Hrel.out.len
      go_wp2_with (refine wpList_loadBlk rfl 61 _ rfl (w.heap.size + 1 + 1 + 1) 0 32 rfl 61 (numsA .u64 D) _ Hrel.out.d Tryd.underlying61 rfl sizeD (by rw [HS.out]; omega) ?_; rw [extract_all _ _ HS.out])
      refine (rfold_any D _ Hrel.out.len HSm.out HD.out.2).mono ?_
      rintro e w1 ⟨r, hr0, hr1, hrc, rfl, hu⟩
      have HN := Lib.hid (numN_size r)
      have Hok : Hid (NumOk r (m + n)) := ⟨hr0, hr1, by rw [HD.out.1] at hrc; exact hrc.trans HC.out⟩
      have Hres := Lib.hid (hu.blk Hrel.out.res (fun h => h))
      have Hu := Lib.hid (Hrel.out.upd.trans hu)
      clear hu hr0 hr1 hrc
      go_wp2_with (refine wpList_storeBlk2 rfl 31 _ _ rfl (w.heap.size + 1 + 1) 0 16 rfl (numN r) rfl 31 _ Hres.out sizeNum HN.out (by rw [zeroN_size]; omega) (numsA_one _ _) ?_; intro wz hbz huz hzz; rw [splice_all _ _ 16 zeroN_size HN.out] at hbz; have Hbz := Lib.hid hbz; have Huz := Lib.hid huz; clear hbz huz hzz)
      exact bodyPost_ret (v := .agg (numN r)) (results_cell_row (fn := Tryd.f13) (p := 4) (ty := 31) rfl _ _ (w.heap.size + 1 + 1) 31 _ (0, 0) _ rfl Hbz.out Tryd.underlying31 rfl (by rw [HN.out]; exact sizeNum)) rfl ⟨r, Hok.out, rfl, Hu.out.step Huz.out (fun i hi h => by omega)⟩
theorem enterrAdd (vs : Array Value) (w : World) : (callFunc 13 vs).run Tryd.prog w = .ok (.enter 13 vs) w := run_enter Tryd.func13 (by kernel_rfl) (by kernel_rfl) vs w
theorem enterrNeg (vs : Array Value) (w : World) : (callFunc 17 vs).run Tryd.prog w = .ok (.enter 17 vs) w := run_enter Tryd.func17 (by kernel_rfl) (by kernel_rfl) vs w
/-- Two numbers as cells are the same just if they are. -/
theorem numN_inj {u v : Int} (hu : 0 ≤ u ∧ u < 115792089237316195423570985008687907853269984665640564039457584007913129639936) (hv : 0 ≤ v ∧ v < 115792089237316195423570985008687907853269984665640564039457584007913129639936) : decide (digits 65536 16 u = digits 65536 16 v) = decide (u = v) := by
  rw [decide_eq_decide]
  constructor
  · intro h
    rw [← dig16 u hu.1 hu.2, h, dig16 v hv.1 hv.2]
  · intro h; rw [h]
theorem guardNum : Tryd.prog.eqGuardType Tryd.prog.depth 31 = false := by kernel_rfl
end Go.Proofs.YtpjkmocabnnhaaaDoor
