/-
  The reference's numbers: Mul.
-/
import Derived.Test.YthnpbodkcdbckaaDoorRefG
import Derived.Test.YthnpbodkcdbckaaDoorAddMath
namespace Go.Proofs.YthnpbodkcdbckaaDoor
set_option maxRecDepth 100000
open Go.RowKit

/-- A number below 2^256 that is alike n. -/
def NumOk (r n : Int) : Prop := 0 ≤ r ∧ r < 115792089237316195423570985008687907853269984665640564039457584007913129639936 ∧ Cong r n
/-- A call's answer: a number alike n. -/
def RetN (n : Int) (w : World) (e : Ending) (w' : World) : Prop := ∃ r, NumOk r n ∧ e = .returned (.agg (numN r)) ∧ Upd (fun _ => False) w w'
theorem NumOk.to {r m n : Int} (h : NumOk r m) (g : Cong m n) : NumOk r n := ⟨h.1, h.2.1, h.2.2.trans g⟩
def zeroD : Array Value := numsA .u64 (List.replicate 32 0)
theorem zeroD_size : zeroD.size = 32 := by kernel_rfl
theorem zeroD_run (w : World) : (zeroValue 117).run Tryd.prog w = .ok (.agg zeroD) w := by kernel_rfl
theorem sizeD : (Tryd.prog.info? 117).map (·.size) = some 32 := by kernel_rfl
/-- The blocks of Add and Mul: both arguments, the result, the digits. -/
structure TwoRel (w wr : World) (u v : Int) (D : List Int) : Prop where
  upd : Upd (fun _ => False) w wr
  a : Blk wr w.heap.size 45 (numN u)
  b : Blk wr (w.heap.size + 1) 45 (numN v)
  res : Blk wr (w.heap.size + 1 + 1) 45 zeroN
  d : Blk wr (w.heap.size + 1 + 1 + 1) 117 (numsA .u64 D)
  len : D.length = 32
theorem TwoRel.set {w wr : World} {u v : Int} {D : List Int} (h : TwoRel w wr u v D) (n j : Nat) (x : Int) : TwoRel w ((wr.drewN n).setCell ⟨w.heap.size + 1 + 1 + 1, j, none⟩ (.int .u64 x)) u v (D.set j x) := by
  refine ⟨(h.upd.drewN n).set _ (fun hb => absurd hb (show ¬ w.heap.size + 1 + 1 + 1 < w.heap.size by omega)), (h.a.drewN n).setOther (show w.heap.size ≠ w.heap.size + 1 + 1 + 1 by omega) _, (h.b.drewN n).setOther (show w.heap.size + 1 ≠ w.heap.size + 1 + 1 + 1 by omega) _, (h.res.drewN n).setOther (show w.heap.size + 1 + 1 ≠ w.heap.size + 1 + 1 + 1 by omega) _, ?_, by simpa using h.len⟩
  rw [← numsA_set]
  exact (h.d.drewN n).set j _
theorem TwoRel.cell {w wr : World} {u v : Int} {D : List Int} (h : TwoRel w wr u v D) (j : Nat) (hj : j < 32) : wr.cell? ⟨w.heap.size + 1 + 1 + 1, j, none⟩ = some (.int .u64 (D.getD j 0)) := by
  rw [h.d.cell, numsA_get _ _ _ (by rw [h.len]; exact hj)]
theorem TwoRel.cellA {w wr : World} {u v : Int} {D : List Int} (h : TwoRel w wr u v D) (j : Nat) (hj : j < 16) : wr.cell? ⟨w.heap.size, j, none⟩ = some (.int .u64 ((digits 65536 16 u).getD j 0)) := by
  rw [h.a.cell]; unfold numN; rw [numsA_get _ _ _ (by rw [digits_length]; exact hj)]
theorem TwoRel.cellB {w wr : World} {u v : Int} {D : List Int} (h : TwoRel w wr u v D) (j : Nat) (hj : j < 16) : wr.cell? ⟨w.heap.size + 1, j, none⟩ = some (.int .u64 ((digits 65536 16 v).getD j 0)) := by
  rw [h.b.cell]; unfold numN; rw [numsA_get _ _ _ (by rw [digits_length]; exact hj)]
theorem TwoRel.start (w : World) (u v : Int) : TwoRel w ((((w.alloc (.cells (numN u) 45)).alloc (.cells (numN v) 45)).alloc (.cells zeroN 45)).alloc (.cells zeroD 117)) u v (List.replicate 32 0) :=
  ⟨((((Upd.refl (fun _ => False) w).alloc _).alloc _).alloc _).alloc _, (((Blk.at1 w _ _).alloc _).alloc _).alloc _, ((Blk.at2 w _ _ _).alloc _).alloc _, (Blk.at3 w _ _ _ _).alloc _, Blk.at4 w _ _ _ _ _, by simp⟩
set_option maxHeartbeats 2000000 in
theorem rMul_any (u v m n : Int) (w : World) (hu : NumOk u m) (hv : NumOk v n) : Calls Tryd.prog 58 #[.agg (numN u), .agg (numN v)] w (RetN (m * n) w) := by
  have hz := zeroN_run
  have hz2 := zeroD_run
  have HC := Lib.hid (Cong.mul hu.2.2 hv.2.2)
  have HU := Lib.hid (dig16 u hu.1 hu.2.1)
  have HV := Lib.hid (dig16 v hv.1 hv.2.1)
  have HGA := Lib.hid (digs16 u)
  have HGB := Lib.hid (digs16 v)
  clear hu hv
  go_enter Tryd.func58, Tryd.ntmps58
  go_wp2
  go_loopw [6] (fun i wr => ∃ (k : Nat) (D : List Int), k ≤ 16 ∧ i = .int .i64 k ∧ TwoRel w wr u v D ∧ MulR (digits 65536 16 u) (digits 65536 16 v) D k 0) (fun i _ => 16 - (intOf i).toNat)
  case atStart => exact ⟨0, _, by omega, rfl, TwoRel.start w u v, MulR.start _ _⟩
  case round =>
    obtain ⟨k, D, hk, rfl, hrel, hmul⟩ := hrel
    by_cases hlt : k < 16
    · have HR := Lib.hid hrel
      have HM := Lib.hid hmul
      clear hrel hmul
      go_wp2
      go_loopw [7] (fun i wr => ∃ (l : Nat) (D : List Int), l ≤ 16 ∧ i = .int .i64 l ∧ TwoRel w wr u v D ∧ MulR (digits 65536 16 u) (digits 65536 16 v) D k l) (fun i _ => 16 - (intOf i).toNat)
      case atStart => exact ⟨0, D, by omega, rfl, HR.out, HM.out⟩
      case round =>
        clear HR HM
        obtain ⟨l, E, hl, rfl, hrel, hmul⟩ := hrel
        have hfr := hrel.d.frozen
        by_cases hlt2 : l < 16
        · have c1 := hrel.cell (k + l) (by omega)
          have c2 := hrel.cellA k hlt
          have c3 := hrel.cellB l hlt2
          have hb := hmul.small (by omega) (k + l)
          have hp := mul_bd16 (HGA.out.get (B := 65536) (by omega) k) (HGB.out.get (B := 65536) (by omega) l)
          have Hrel := Lib.hid hrel
          have Hnext := Lib.hid (hmul.step hlt hlt2 HGA.out HGB.out)
          generalize (digits 65536 16 u).getD k 0 = x at *
          generalize (digits 65536 16 v).getD l 0 = y at *
          generalize E.getD (k + l) 0 = z at *
          have q1 : IntKind.i64.wrap ((k : Int) + (l : Int)) = (k : Int) + (l : Int) := IntWalk.i64_in _ (by omega)
          have q2 : ((k : Int) + (l : Int)).toNat = k + l := by omega
          have q3 : (0 : Int) ≤ (k : Int) + (l : Int) := by omega
          have q4 : IntKind.u64.wrap (x * y) = x * y := IntWalk.u64_in _ (by omega)
          have q5 : IntKind.u64.wrap (z + x * y) = z + x * y := IntWalk.u64_in _ (by omega)
          clear hrel hmul hb hp
          go_wp2
          go_region
          clear q1 q2 q3 q4 q5 c1 c2 c3
          go_wp2
          exact ⟨⟨l + 1, _, by omega, by go_num, Hrel.out.set 1 (k + l) _, Hnext.out⟩, by simp [intOf]; omega⟩
        · obtain rfl : l = 16 := by omega
          have Hrel := Lib.hid hrel
          have Hnext := Lib.hid (hmul.row hlt (digits_length _ _ _))
          clear hrel hmul hfr
          have hd16 : decide (((16 : Nat) : Int) < 16) = false := by decide
          go_wp2
          exact ⟨⟨k + 1, E, by omega, by go_num, Hrel.out, Hnext.out⟩, by simp [intOf]; omega⟩
    · obtain rfl : k = 16 := by omega
      have hdone := hmul.done HGA.out HGB.out (digits_length _ _ _) (digits_length _ _ _)
      rw [HU.out, HV.out] at hdone
      have Hrel := Lib.hid hrel
      have HD := Lib.hid hdone
      clear hrel hmul hdone
      have hd16 : decide (((16 : Nat) : Int) < 16) = false := by decide
      have HS : Hid ((numsA .u64 D).size = 32) := by show _ = _; rw [numsA_size]; exact Hrel.out.len
      go_wp2_with (refine wpList_loadBlk rfl 117 _ rfl (w.heap.size + 1 + 1 + 1) 0 32 rfl 117 (numsA .u64 D) _ Hrel.out.d Tryd.underlying117 rfl sizeD (by rw [HS.out]; omega) ?_; rw [extract_all _ _ HS.out])
      refine (rfold_any D _ Hrel.out.len HD.out.1 HD.out.2.2).mono ?_
      rintro e w1 ⟨r, hr0, hr1, hrc, rfl, hu⟩
      have HN := Lib.hid (numN_size r)
      have Hok : Hid (NumOk r (m * n)) := ⟨hr0, hr1, by rw [HD.out.2.1] at hrc; exact hrc.trans HC.out⟩
      have Hres := Lib.hid (hu.blk Hrel.out.res (fun h => h))
      have Hu := Lib.hid (Hrel.out.upd.trans hu)
      clear hu hr0 hr1 hrc
      go_wp2_with (refine wpList_storeBlk2 rfl 45 _ _ rfl (w.heap.size + 1 + 1) 0 16 rfl (numN r) rfl 45 _ Hres.out sizeNum HN.out (by rw [zeroN_size]; omega) (numsA_one _ _) ?_; intro wz hbz huz hzz; rw [splice_all _ _ 16 zeroN_size HN.out] at hbz; have Hbz := Lib.hid hbz; have Huz := Lib.hid huz; clear hbz huz hzz)
      exact bodyPost_ret (v := .agg (numN r)) (results_cell_row (fn := Tryd.f58) (p := 4) (ty := 45) rfl _ _ (w.heap.size + 1 + 1) 45 _ (0, 0) _ rfl Hbz.out Tryd.underlying45 rfl (by rw [HN.out]; exact sizeNum)) rfl ⟨r, Hok.out, rfl, Hu.out.step Huz.out (fun i hi h => by omega)⟩
end Go.Proofs.YthnpbodkcdbckaaDoor
