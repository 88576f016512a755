/-
  The reference's numbers: Power.
-/
import Derived.Test.YthnpbodkcdbckaaDoorRefN
import Derived.Test.YthnpbodkcdbckaaDoorPower
namespace Go.Proofs.YthnpbodkcdbckaaDoor
set_option maxRecDepth 100000
open Go.RowKit

theorem digits_getD {B : Int} (hB : 0 < B) : ∀ (n i : Nat) (v : Int), i < n → (digits B n v).getD i 0 = v / B ^ i % B
  | 0, i, v, h => by omega
  | n + 1, 0, v, _ => by simp [digits]
  | n + 1, i + 1, v, h => by
    rw [digits, List.getD_cons_succ, digits_getD hB n i (v / B) (by omega), Int.pow_succ, Int.mul_comm (B ^ i) B, Int.ediv_ediv_of_nonneg (Int.le_of_lt hB)]
theorem num_bit (e : Int) (h0 : 0 ≤ e) (j : Nat) (hj : j < 256) : ((e.toNat / 2 ^ j % 2 : Nat) : Int) = (digits 65536 16 e).getD (j / 16) 0 / 2 ^ (j % 16) % 2 := by
  rw [digits_getD (by omega) 16 (j / 16) e (by omega)]
  obtain ⟨E, rfl⟩ := Int.eq_ofNat_of_zero_le h0
  rw [Int.toNat_natCast]
  have e1 : E / 2 ^ j = E / 65536 ^ (j / 16) / 2 ^ (j % 16) := by
    rw [Nat.div_div_eq_div_mul]
    congr 1
    rw [show (65536 : Nat) = 2 ^ 16 from rfl, ← Nat.pow_mul, ← Nat.pow_add]
    congr 1
    omega
  have e2 : ((E : Int) / 65536 ^ (j / 16)) = ((E / 65536 ^ (j / 16) : Nat) : Int) := by simp
  rw [e1, e2]
  generalize E / 65536 ^ (j / 16) = q
  have hr : j % 16 < 16 := Nat.mod_lt _ (by omega)
  generalize j % 16 = r at *
  have : r = 0 ∨ r = 1 ∨ r = 2 ∨ r = 3 ∨ r = 4 ∨ r = 5 ∨ r = 6 ∨ r = 7 ∨ r = 8 ∨ r = 9 ∨ r = 10 ∨ r = 11 ∨ r = 12 ∨ r = 13 ∨ r = 14 ∨ r = 15 := by omega
  rcases this with rfl | rfl | rfl | rfl | rfl | rfl | rfl | rfl | rfl | rfl | rfl | rfl | rfl | rfl | rfl | rfl <;> simp only [Nat.reducePow, Int.reducePow] <;> omega
theorem toNat_top (e : Int) (h0 : 0 ≤ e) (h1 : e < 115792089237316195423570985008687907853269984665640564039457584007913129639936) : e.toNat / 2 ^ 256 = 0 := by
  apply Nat.div_eq_of_lt
  rw [show (2 : Nat) ^ 256 = 115792089237316195423570985008687907853269984665640564039457584007913129639936 by decide]
  omega
/-- The blocks of the reference's Power: both arguments, the result, what is made. -/
structure RPow (w wr : World) (g : Nat) (u e s : Int) : Prop where
  upd : Upd (fun _ => False) w wr
  a : Blk wr w.heap.size 45 (numN u)
  b : Blk wr (w.heap.size + 1) 45 (numN e)
  res : Blk wr (w.heap.size + 1 + 1) 45 zeroN
  g : Blk wr g 45 (numN s)
theorem RPow.call {w wr wz : World} {g : Nat} {u e s : Int} (h : RPow w wr g u e s) (hu : Upd (fun _ => False) wr wz) : RPow w wz g u e s :=
  ⟨h.upd.trans hu, hu.blk h.a (fun h => h), hu.blk h.b (fun h => h), hu.blk h.res (fun h => h), hu.blk h.g (fun h => h)⟩
theorem RPow.put {w wr wz : World} {g : Nat} {u e s t : Int} (h : RPow w wr g u e s) (hg : w.heap.size + 1 + 1 < g) (hu : Upd (· = g) wr wz) (hb : Blk wz g 45 (numN t)) : RPow w wz g u e t :=
  ⟨h.upd.step hu (fun i hi h => by omega), hu.blk h.a (show ¬ w.heap.size = g by omega), hu.blk h.b (show ¬ w.heap.size + 1 = g by omega), hu.blk h.res (show ¬ w.heap.size + 1 + 1 = g by omega), hb⟩
set_option maxHeartbeats 2000000 in
theorem rPower_any (u m e : Int) (w : World) (hu : NumOk u m) (he0 : 0 ≤ e) (he1 : e < 115792089237316195423570985008687907853269984665640564039457584007913129639936) :
    Calls Tryd.prog 90 #[.agg (numN u), .agg (numN e)] w (RetN (m ^ e.toNat) w) := by
  have hz := zeroN_run
  have Hu := Lib.hid hu
  have Htop := Lib.hid (toNat_top e he0 he1)
  have Hbit := Lib.hid (num_bit e he0)
  have HG := Lib.hid (fun j => (digs16 e).get (B := 65536) (by omega) j)
  have HNu := Lib.hid (numN_size u)
  clear hu he0 he1
  go_enter Tryd.func90, Tryd.ntmps90
  go_wp2_with fail
  refine (rSmall_any 1 _ (by omega) (by omega)).mono ?_
  rintro e0 w0 ⟨rfl, hu⟩
  have hz0 : w.heap.size + 1 + 1 < w0.heap.size := by have := hu.size; simp at this; omega
  have HN1 := Lib.hid (numN_size 1)
  go_wp2_with (refine wpList_storeBlk2 rfl 45 _ _ rfl w0.heap.size 0 16 rfl (numN 1) rfl 45 zeroN (Blk.at1 w0 _ _) sizeNum HN1.out (by rw [zeroN_size]; omega) (numsA_one _ _) ?_; intro w1 hb1 hu1 hz1; rw [splice_all _ _ 16 zeroN_size HN1.out] at hb1; have Hb1 := Lib.hid hb1; have Hu1 := Lib.hid hu1; clear hb1 hu1 hz1)
  have HR : Hid (RPow w w1 w0.heap.size u e 1) :=
    ⟨((((((Upd.refl (fun _ => False) w).alloc _).alloc _).alloc _).trans hu).alloc _).step Hu1.out (fun i hi h => by omega), Hu1.out.blk ((hu.blk (((Blk.at1 w _ _).alloc _).alloc _) (fun h => h)).alloc _) (show ¬ w.heap.size = w0.heap.size by omega), Hu1.out.blk ((hu.blk ((Blk.at2 w _ _ _).alloc _) (fun h => h)).alloc _) (show ¬ w.heap.size + 1 = w0.heap.size by omega), Hu1.out.blk ((hu.blk (Blk.at3 w _ _ _ _) (fun h => h)).alloc _) (show ¬ w.heap.size + 1 + 1 = w0.heap.size by omega), Hb1.out⟩
  clear hu Hu1 Hb1
  generalize w0.heap.size = g at *
  go_loopw [6] (fun i wr => ∃ (k : Nat) (s : Int), k ≤ 256 ∧ i = .int .i64 ((k : Int) - 1) ∧ NumOk s (m ^ (e.toNat / 2 ^ k)) ∧ RPow w wr g u e s) (fun i _ => (intOf i + 1).toNat)
  case atStart => exact ⟨256, 1, by omega, rfl, by rw [Htop.out, Int.pow_zero]; exact okNum (by omega) (by omega), HR.out⟩
  case round =>
    clear HR
    obtain ⟨k, s, hk, rfl, hok, hrel⟩ := hrel
    have HK := Lib.hid hok
    have HR := Lib.hid hrel
    have HNs := Lib.hid (numN_size s)
    clear hok hrel
    by_cases hlt : 0 < k
    · obtain ⟨j, rfl⟩ : ∃ j, k = j + 1 := ⟨k - 1, by omega⟩
      have e1 : ((j + 1 : Nat) : Int) - 1 = (j : Int) := by omega
      rw [e1]
      clear e1 hlt
      go_wp2_with (refine wpList_loadBlk rfl 45 _ rfl g 0 16 rfl 45 (numN s) _ HR.out.g Tryd.underlying45 rfl sizeNum (by rw [HNs.out]; omega) ?_; rw [extract_all _ _ HNs.out])
      refine (rMul_any s s _ _ _ HK.out HK.out).mono ?_
      rintro e0 w2 ⟨z, hz2, rfl, hu⟩
      have HR2 := Lib.hid (HR.out.call hu)
      have HZ := Lib.hid hz2
      have HNz := Lib.hid (numN_size z)
      have c1 : ∀ wq, RPow w wq g u e z → wq.cell? ⟨w.heap.size + 1, j / 16, none⟩ = some (.int .u64 ((digits 65536 16 e).getD (j / 16) 0)) := fun wq hq => by rw [hq.b.cell]; unfold numN; rw [numsA_get _ _ _ (by rw [digits_length]; omega)]
      have C1 := Lib.hid c1
      have hb := HG.out (j / 16)
      have HbJ := Lib.hid (Hbit.out j (by omega))
      clear hu hz2 HR HK c1
      generalize (digits 65536 16 e).getD (j / 16) 0 = x at *
      go_wp2_with (refine wpList_storeBlk2 rfl 45 _ _ rfl g 0 16 rfl (numN z) rfl 45 _ HR2.out.g sizeNum HNz.out (by rw [HNs.out]; omega) (numsA_one _ _) ?_; intro w3 hb3 hu3 hz3; rw [splice_all _ _ 16 HNs.out HNz.out] at hb3; have HR3 := Lib.hid (HR2.out.put (by omega) hu3 hb3); have c1 := C1.out _ HR3.out; clear hb3 hu3 hz3)
      clear HR2 c1
      go_loopw [7, 8] (fun b n wr => ∃ t : Nat, t ≤ j % 16 ∧ n = .int .i64 t ∧ b = .int .u64 (x / 2 ^ t) ∧ RPow w wr g u e z) (fun _ n _ => 16 - (intOf n).toNat)
      case atStart => exact ⟨0, by omega, rfl, by simp, HR3.out⟩
      case round =>
        clear HR3
        obtain ⟨t, ht, rfl, rfl, hrel⟩ := hrel
        have Hrel := Lib.hid hrel
        clear hrel
        obtain ⟨y, hy⟩ : ∃ y, y = x / 2 ^ t := ⟨_, rfl⟩
        have hyb : 0 ≤ y ∧ y < 65536 := by
          rw [hy]
          exact ⟨Int.ediv_nonneg hb.1 (Int.le_of_lt (Int.pow_pos (by omega))), Int.lt_of_le_of_lt (Int.ediv_le_self _ hb.1) hb.2⟩
        have Hy := Lib.hid hy
        rw [← hy]
        clear hy
        obtain ⟨hy0, hy1⟩ := hyb
        by_cases hlt : t < j % 16
        · go_wp2
          refine ⟨⟨t + 1, by omega, by go_num, ?_, Hrel.out⟩, by simp [intOf]; omega⟩
          rw [Hy.out, Int.pow_succ, Int.ediv_ediv_of_nonneg (Int.le_of_lt (Int.pow_pos (by omega)))]
        · obtain rfl : t = j % 16 := by omega
          have hnd : decide (((j % 16 : Nat) : Int) < ((j % 16 : Nat) : Int)) = false := by simp
          rw [← Hy.out] at HbJ
          by_cases hbit : y % 2 = 1
          · have Hst : Hid (e.toNat / 2 ^ j % 2 = 1) := by
              have := HbJ.out
              show _ = _
              omega
            have hb1 : (y % 2 == 1) = true := by simp [hbit]
            go_wp2_with (first
              | (refine wpList_loadBlk rfl 45 _ rfl g 0 16 rfl 45 (numN z) _ Hrel.out.g Tryd.underlying45 rfl sizeNum (by rw [HNz.out]; omega) ?_; rw [extract_all _ _ HNz.out])
              | (refine wpList_loadBlk rfl 45 _ rfl w.heap.size 0 16 rfl 45 (numN u) _ Hrel.out.a Tryd.underlying45 rfl sizeNum (by rw [HNu.out]; omega) ?_; rw [extract_all _ _ HNu.out]))
            refine (rMul_any z u _ _ _ HZ.out Hu.out).mono ?_
            rintro e0 w4 ⟨v, hv, rfl, hu⟩
            have HR4 := Lib.hid (Hrel.out.call hu)
            have HV := Lib.hid hv
            have HNv := Lib.hid (numN_size v)
            clear hu hv Hrel
            go_wp2_with (refine wpList_storeBlk2 rfl 45 _ _ rfl g 0 16 rfl (numN v) rfl 45 _ HR4.out.g sizeNum HNv.out (by rw [HNz.out]; omega) (numsA_one _ _) ?_; intro w5 hb5 hu5 hz5; rw [splice_all _ _ 16 HNz.out HNv.out] at hb5; have HR5 := Lib.hid (HR4.out.put (by omega) hu5 hb5); clear hb5 hu5 hz5)
            refine ⟨⟨j, v, by omega, rfl, ?_, HR5.out⟩, by simp [intOf]⟩
            rw [← pow_step1 m _ j Hst.out]
            exact HV.out
          · have Hst : Hid (e.toNat / 2 ^ j % 2 = 0) := by
              have := HbJ.out
              show _ = _
              omega
            have hb1 : (y % 2 == 1) = false := by simpa using hbit
            go_wp2
            refine ⟨⟨j, z, by omega, rfl, ?_, Hrel.out⟩, by simp [intOf]⟩
            rw [← pow_step m _ j Hst.out]
            exact HZ.out
    · obtain rfl : k = 0 := by omega
      have hzz : decide ((0 : Int) ≤ ((0 : Nat) : Int) - 1) = false := by decide
      go_wp2_with (first
        | (refine wpList_loadBlk rfl 45 _ rfl g 0 16 rfl 45 (numN s) _ HR.out.g Tryd.underlying45 rfl sizeNum (by rw [HNs.out]; omega) ?_; rw [extract_all _ _ HNs.out])
        | (refine wpList_storeBlk2 rfl 45 _ _ rfl (w.heap.size + 1 + 1) 0 16 rfl (numN s) rfl 45 _ HR.out.res sizeNum HNs.out (by rw [zeroN_size]; omega) (numsA_one _ _) ?_; intro wz hbz huz hzz; rw [splice_all _ _ 16 zeroN_size HNs.out] at hbz; have Hbz := Lib.hid hbz; have Huz := Lib.hid huz; clear hbz huz hzz))
      refine bodyPost_ret (v := .agg (numN s)) (results_cell_row (fn := Tryd.f90) (p := 4) (ty := 45) rfl _ _ (w.heap.size + 1 + 1) 45 _ (0, 0) _ rfl Hbz.out Tryd.underlying45 rfl (by rw [HNs.out]; exact sizeNum)) rfl ⟨s, ?_, rfl, HR.out.upd.step Huz.out (fun i hi h => by omega)⟩
      have := HK.out
      rw [Nat.pow_zero, Nat.div_one] at this
      exact this
end Go.Proofs.YthnpbodkcdbckaaDoor
