/-
  The walk of Power.
-/
/-
  The reference's numbers: Power.
-/
import Derived.Test.YtdpafemcpbhlfaaDoorLists
import Derived.Test.YtdpafemcpbhlfaaDoorRefB
import Derived.Test.YtdpafemcpbhlfaaDoorRefN
namespace Go.Proofs.YtdpafemcpbhlfaaDoor
set_option maxRecDepth 100000
open Go.RowKit

/-- The exponent of a key. -/
def expo (l : List Int) : Nat := (dig 256 l).toNat
/-- Bit j of a key. -/
def bitAt (l : List Int) (j : Nat) : Int := l.getD (j / 8) 0 / 2 ^ (j % 8) % 2
theorem expo_byte : ∀ (l : List Int), Digs 256 l → ∀ i, (expo l / 256 ^ i) % 256 = (l.getD i 0).toNat
  | [], _, i => by simp [expo, dig]
  | x :: l, h, i => by
    have hx := h x (by simp)
    have hl : Digs 256 l := fun y hy => h y (by simp [hy])
    have hn := dig_nonneg (B := 256) (by omega) hl
    have e : expo (x :: l) = x.toNat + 256 * expo l := by unfold expo; simp only [dig]; omega
    cases i with
    | zero => rw [e, Nat.pow_zero, Nat.div_one, List.getD_cons_zero]; omega
    | succ i =>
      rw [e, List.getD_cons_succ, ← expo_byte l hl i, Nat.pow_succ, Nat.mul_comm (256 ^ i) 256, ← Nat.div_div_eq_div_mul]
      rw [show (x.toNat + 256 * expo l) / 256 = expo l by omega]
theorem expo_bit (l : List Int) (h : Digs 256 l) (j : Nat) : ((expo l / 2 ^ j % 2 : Nat) : Int) = bitAt l j := by
  unfold bitAt
  have hb := expo_byte l h (j / 8)
  have hg := h.get (B := 256) (by omega) (j / 8)
  obtain ⟨x, hx⟩ := Int.eq_ofNat_of_zero_le hg.1
  rw [hx] at hb ⊢
  rw [Int.toNat_natCast] at hb
  have e1 : expo l / 2 ^ j = expo l / 256 ^ (j / 8) / 2 ^ (j % 8) := by
    rw [Nat.div_div_eq_div_mul]
    congr 1
    rw [show (256 : Nat) = 2 ^ 8 from rfl, ← Nat.pow_mul, ← Nat.pow_add]
    congr 1
    omega
  rw [e1]
  generalize expo l / 256 ^ (j / 8) = q at *
  have hr : j % 8 < 8 := Nat.mod_lt _ (by omega)
  generalize j % 8 = r at *
  have : (q / 2 ^ r) % 2 = (x / 2 ^ r) % 2 := by
    rw [← hb]
    have : r = 0 ∨ r = 1 ∨ r = 2 ∨ r = 3 ∨ r = 4 ∨ r = 5 ∨ r = 6 ∨ r = 7 := by omega
    rcases this with rfl | rfl | rfl | rfl | rfl | rfl | rfl | rfl <;> simp only [Nat.reducePow] <;> omega
  rw [this]
  simp
theorem cells5p {w : World} {b : Nat} {t : TypeId} {v0 v1 v2 v3 v4 : Value} (h : Blk w b t #[v0, v1, v2, v3, v4]) :
    w.cell? ⟨b, 0, none⟩ = some v0 ∧ w.cell? ⟨b, 1, none⟩ = some v1 ∧ w.cell? ⟨b, 2, none⟩ = some v2 ∧ w.cell? ⟨b, 3, none⟩ = some v3 ∧ w.cell? ⟨b, 4, none⟩ = some v4 :=
  ⟨h.cell 0, h.cell 1, h.cell 2, h.cell 3, h.cell 4⟩
/-- What holds at the head of Power's loop. -/
def PowRel (w wr : World) (g : Nat) (l : List Int) (x0 x1 x2 x3 x4 m : Int) (k : Nat) : Prop :=
  ∃ s0 s1 s2 s3 s4 : Int, Fits s0 s1 s2 s3 s4 (m ^ (expo l / 2 ^ k)) ∧ Upd (fun _ => False) w wr ∧ Blk wr w.heap.size 39 #[.int .u64 x0, .int .u64 x1, .int .u64 x2, .int .u64 x3, .int .u64 x4] ∧ Blk wr (w.heap.size + 1) 23 (numsA .u8 l) ∧ Blk wr (w.heap.size + 1 + 1) 39 #[.int .u64 0, .int .u64 0, .int .u64 0, .int .u64 0, .int .u64 0] ∧ Blk wr g 39 #[.int .u64 s0, .int .u64 s1, .int .u64 s2, .int .u64 s3, .int .u64 s4]
theorem pow_step (m : Int) (E j : Nat) (h : E / 2 ^ j % 2 = 0) : m ^ (E / 2 ^ (j + 1)) * m ^ (E / 2 ^ (j + 1)) = m ^ (E / 2 ^ j) := by
  rw [← Int.pow_add]
  congr 1
  rw [Nat.pow_succ, ← Nat.div_div_eq_div_mul]
  omega
theorem pow_step1 (m : Int) (E j : Nat) (h : E / 2 ^ j % 2 = 1) : m ^ (E / 2 ^ (j + 1)) * m ^ (E / 2 ^ (j + 1)) * m = m ^ (E / 2 ^ j) := by
  rw [← Int.pow_add, ← Int.pow_succ]
  congr 1
  rw [Nat.pow_succ, ← Nat.div_div_eq_div_mul]
  omega
theorem expo_top (l : List Int) (hl : l.length = 32) (hd : Digs 256 l) : expo l / 2 ^ 256 = 0 := by
  apply Nat.div_eq_of_lt
  have h := dig_lt (B := 256) (by omega) hd
  have h0 := dig_nonneg (B := 256) (by omega) hd
  rw [hl, show (256 : Int) ^ 32 = 115792089237316195423570985008687907853269984665640564039457584007913129639936 by decide] at h
  unfold expo
  rw [show (2 : Nat) ^ 256 = 115792089237316195423570985008687907853269984665640564039457584007913129639936 by decide]
  omega
theorem and8_one (z : Int) (h0 : 0 ≤ z) (h1 : z < 256) : bits .and .u8 z 1 = z % 2 := by
  obtain ⟨m, rfl⟩ := Int.eq_ofNat_of_zero_le h0
  have := u8_and_nat m 1 (by omega) (by omega)
  rw [show m &&& 1 = m % 2 from Nat.and_two_pow_sub_one_eq_mod m 1] at this
  rw [show ((1 : Nat) : Int) = 1 from rfl] at this
  rw [this]
  omega
theorem byte_shift (y : Int) (h : 0 ≤ y ∧ y < 256) (r : Nat) : 0 ≤ y / 2 ^ r ∧ y / 2 ^ r < 256 := by
  have hp : (0 : Int) < 2 ^ r := Int.pow_pos (by omega)
  refine ⟨Int.ediv_nonneg h.1 (Int.le_of_lt hp), Int.lt_of_le_of_lt (Int.ediv_le_self _ h.1) h.2⟩
set_option maxHeartbeats 2000000 in
theorem power_any (x0 x1 x2 x3 x4 m : Int) (l : List Int) (w : World) (hx : Fits x0 x1 x2 x3 x4 m) (hl : l.length = 32) (hd : Digs 256 l) :
    Calls Tryd.prog 81 #[.agg #[.int .u64 x0, .int .u64 x1, .int .u64 x2, .int .u64 x3, .int .u64 x4], .agg (numsA .u8 l)] w (RetE (m ^ expo l) w) := by
  have Hx := Lib.hid hx
  have Hl := Lib.hid hl
  have Hd := Lib.hid hd
  have Htop := Lib.hid (expo_top l hl hd)
  have Hbit := Lib.hid (expo_bit l hd)
  clear hx hl hd
  go_enter Tryd.func81, Tryd.ntmps81
  go_wp2_with fail
  refine (small_any 1 _ (by omega) (by omega)).mono ?_
  rintro e w0 ⟨o0, o1, o2, o3, o4, hFo, rfl, hu⟩
  have HR : Hid (PowRel w (w0.alloc (.cells #[.int .u64 o0, .int .u64 o1, .int .u64 o2, .int .u64 o3, .int .u64 o4] 39)) w0.heap.size l x0 x1 x2 x3 x4 m 256) :=
    ⟨_, _, _, _, _, by rw [Htop.out, Int.pow_zero]; exact hFo, (((((Upd.refl (fun _ => False) w).alloc _).alloc _).alloc _).trans hu).alloc _, (hu.blk (((Blk.at1 w _ _).alloc _).alloc _) (fun h => h)).alloc _, (hu.blk ((Blk.at2 w _ _ _).alloc _) (fun h => h)).alloc _, (hu.blk (Blk.at3 w _ _ _ _) (fun h => h)).alloc _, Blk.at1 w0 _ _⟩
  have hz0 : w.heap.size + 1 + 1 < w0.heap.size := by have := hu.size; simp at this; omega
  clear hu hFo
  go_wp2
  go_loopw [6] (fun i wr => ∃ k : Nat, k ≤ 256 ∧ i = .int .i64 ((k : Int) - 1) ∧ PowRel w wr w0.heap.size l x0 x1 x2 x3 x4 m k) (fun i _ => (intOf i + 1).toNat)
  case atStart => exact ⟨256, by omega, rfl, HR.out⟩
  case round =>
    clear HR
    obtain ⟨k, hk, rfl, s0, s1, s2, s3, s4, hF, hu, hb0, hb1, hb2, hbg⟩ := hrel
    have HF := Lib.hid hF
    have HU := Lib.hid hu
    have HB0 := Lib.hid hb0
    have HB1 := Lib.hid hb1
    have HB2 := Lib.hid hb2
    have HBG := Lib.hid hbg
    have hlg := hbg.lt
    clear hF hu hb0 hb1 hb2 hbg
    by_cases hlt : 0 < k
    · obtain ⟨j, rfl⟩ : ∃ j, k = j + 1 := ⟨k - 1, by omega⟩
      have e1 : ((j + 1 : Nat) : Int) - 1 = (j : Int) := by omega
      rw [e1]
      clear e1 hlt
      have q0 : wr.cell? ⟨w0.heap.size, 0, none⟩ = some (.int .u64 s0) := HBG.out.cell 0
      have q1 : wr.cell? ⟨w0.heap.size, 1, none⟩ = some (.int .u64 s1) := HBG.out.cell 1
      have q2 : wr.cell? ⟨w0.heap.size, 2, none⟩ = some (.int .u64 s2) := HBG.out.cell 2
      have q3 : wr.cell? ⟨w0.heap.size, 3, none⟩ = some (.int .u64 s3) := HBG.out.cell 3
      have q4 : wr.cell? ⟨w0.heap.size, 4, none⟩ = some (.int .u64 s4) := HBG.out.cell 4
      go_wp2_with fail
      refine (mul_any s0 s1 s2 s3 s4 s0 s1 s2 s3 s4 _ _ _ HF.out HF.out).mono ?_
      rintro e w1 ⟨z0, z1, z2, z3, z4, hFz, rfl, hu⟩
      have HB0' := Lib.hid (hu.blk HB0.out (fun h => h))
      have HB1' := Lib.hid (hu.blk HB1.out (fun h => h))
      have HB2' := Lib.hid (hu.blk HB2.out (fun h => h))
      have HBG' := Lib.hid (hu.blk HBG.out (fun h => h))
      have HU' := Lib.hid (HU.out.trans hu)
      have HFz := Lib.hid hFz
      have Hone := Lib.hid (one5 z0 z1 z2 z3 z4)
      have hbb := (Hd.out.get (B := 256) (by omega) (j / 8))
      have HbitJ := Lib.hid (Hbit.out j)
      clear hu hFz q0 q1 q2 q3 q4 HB0 HB1 HB2 HBG HU HF
      have c1 : ∀ wq, Blk wq (w.heap.size + 1) 23 (numsA .u8 l) → wq.cell? ⟨w.heap.size + 1, j / 8, none⟩ = some (.int .u8 (l.getD (j / 8) 0)) := fun wq hq => (hq.cell (j / 8)).trans (numsA_get _ _ _ (by rw [Hl.out]; omega))
      have hbj : bitAt l j = l.getD (j / 8) 0 / 2 ^ (j % 8) % 2 := rfl
      have Hbj := Lib.hid hbj
      clear hbj
      generalize l.getD (j / 8) 0 = y at *
      have hsh := byte_shift y hbb (j % 8)
      have hand := and8_one _ hsh.1 hsh.2
      have C1 := Lib.hid c1
      clear c1
      by_cases hbit : y / 2 ^ (j % 8) % 2 = 1
      · have hb1 : (bits .and .u8 (y / 2 ^ (j % 8)) 1 == 1) = true := by rw [hand, hbit]; rfl
        have Hst : Hid (expo l / 2 ^ j % 2 = 1) := by
          have := HbitJ.out
          rw [Hbj.out, hbit] at this
          show _ = _
          omega
        clear hand hbit hsh
        go_wp2_with (refine wpList_storeBlk2 rfl 39 _ _ rfl w0.heap.size 0 5 rfl #[.int .u64 z0, .int .u64 z1, .int .u64 z2, .int .u64 z3, .int .u64 z4] rfl 39 _ HBG'.out info28 rfl (by simp) Hone.out ?_; intro w2 hb2 hu2 hz2; rw [splice_all _ _ 5 rfl rfl] at hb2; have HBG2 := Lib.hid hb2; have HB02 := Lib.hid (hu2.blk HB0'.out (show ¬ w.heap.size = w0.heap.size from (by omega))); have HB12 := Lib.hid (hu2.blk HB1'.out (show ¬ w.heap.size + 1 = w0.heap.size from (by omega))); have HB22 := Lib.hid (hu2.blk HB2'.out (show ¬ w.heap.size + 1 + 1 = w0.heap.size from (by omega))); have HU2 := Lib.hid (HU'.out.step hu2 (fun i hi h => (by omega))); have c1 := C1.out w2 HB12.out; obtain ⟨t0, t1, t2, t3, t4⟩ := cells5p HB02.out; obtain ⟨r0, r1, r2, r3, r4⟩ := cells5p HBG2.out; clear hb2 hu2 hz2)
        refine (mul_any z0 z1 z2 z3 z4 x0 x1 x2 x3 x4 _ _ _ HFz.out Hx.out).mono ?_
        rintro e w3 ⟨v0, v1, v2, v3, v4, hFv, rfl, hu⟩
        have HB03 := Lib.hid (hu.blk HB02.out (fun h => h))
        have HB13 := Lib.hid (hu.blk HB12.out (fun h => h))
        have HB23 := Lib.hid (hu.blk HB22.out (fun h => h))
        have HBG3 := Lib.hid (hu.blk HBG2.out (fun h => h))
        have HU3 := Lib.hid (HU2.out.trans hu)
        have HFv := Lib.hid hFv
        have Hone2 := Lib.hid (one5 v0 v1 v2 v3 v4)
        clear hu hFv t0 t1 t2 t3 t4 r0 r1 r2 r3 r4 c1 HB02 HB12 HB22 HBG2 HU2
        go_wp2_with (refine wpList_storeBlk2 rfl 39 _ _ rfl w0.heap.size 0 5 rfl #[.int .u64 v0, .int .u64 v1, .int .u64 v2, .int .u64 v3, .int .u64 v4] rfl 39 _ HBG3.out info28 rfl (by simp) Hone2.out ?_; intro w4 hb4 hu4 hz4; rw [splice_all _ _ 5 rfl rfl] at hb4; have HBG4 := Lib.hid hb4; have HU4 := Lib.hid hu4; clear hb4 hu4 hz4)
        refine ⟨⟨j, by omega, rfl, _, _, _, _, _, HFv.out.to (by rw [pow_step1 m _ j Hst.out]; exact Cong.refl _), HU3.out.step HU4.out (fun i hi h => by omega), HU4.out.blk HB03.out (show ¬ w.heap.size = w0.heap.size from (by omega)), HU4.out.blk HB13.out (show ¬ w.heap.size + 1 = w0.heap.size from (by omega)), HU4.out.blk HB23.out (show ¬ w.heap.size + 1 + 1 = w0.heap.size from (by omega)), HBG4.out⟩, by simp [intOf]⟩
      · have hb1 : (bits .and .u8 (y / 2 ^ (j % 8)) 1 == 1) = false := by rw [hand]; simpa using hbit
        have Hst : Hid (expo l / 2 ^ j % 2 = 0) := by
          have := HbitJ.out
          rw [Hbj.out] at this
          show _ = _
          omega
        clear hand hbit hsh
        go_wp2_with (refine wpList_storeBlk2 rfl 39 _ _ rfl w0.heap.size 0 5 rfl #[.int .u64 z0, .int .u64 z1, .int .u64 z2, .int .u64 z3, .int .u64 z4] rfl 39 _ HBG'.out info28 rfl (by simp) Hone.out ?_; intro w2 hb2 hu2 hz2; rw [splice_all _ _ 5 rfl rfl] at hb2; have HBG2 := Lib.hid hb2; have HB02 := Lib.hid (hu2.blk HB0'.out (show ¬ w.heap.size = w0.heap.size from (by omega))); have HB12 := Lib.hid (hu2.blk HB1'.out (show ¬ w.heap.size + 1 = w0.heap.size from (by omega))); have HB22 := Lib.hid (hu2.blk HB2'.out (show ¬ w.heap.size + 1 + 1 = w0.heap.size from (by omega))); have HU2 := Lib.hid (HU'.out.step hu2 (fun i hi h => (by omega))); have c1 := C1.out w2 HB12.out; clear hb2 hu2 hz2)
        refine ⟨⟨j, by omega, rfl, _, _, _, _, _, HFz.out.to (by rw [pow_step m _ j Hst.out]; exact Cong.refl _), HU2.out, HB02.out, HB12.out, HB22.out, HBG2.out⟩, by simp [intOf]⟩
    · obtain rfl : k = 0 := by omega
      have hzz : decide ((0 : Int) ≤ ((0 : Nat) : Int) - 1) = false := by decide
      obtain ⟨r0, r1, r2, r3, r4⟩ := cells5p HBG.out
      have Hone := Lib.hid (one5 s0 s1 s2 s3 s4)
      go_wp2_with (refine wpList_storeBlk2 rfl 39 _ _ rfl (w.heap.size + 1 + 1) 0 5 rfl #[.int .u64 s0, .int .u64 s1, .int .u64 s2, .int .u64 s3, .int .u64 s4] rfl 39 _ HB2.out info28 rfl (by simp) Hone.out ?_; intro wz hbz huz hzz; rw [splice_all _ _ 5 rfl rfl] at hbz; have Hbz := Lib.hid hbz; have Huz := Lib.hid huz; clear hbz huz hzz)
      exact bodyPost_ret (v := .agg #[.int .u64 s0, .int .u64 s1, .int .u64 s2, .int .u64 s3, .int .u64 s4]) (results_cell_row (fn := Tryd.f81) (p := 4) (ty := 39) rfl _ _ (w.heap.size + 1 + 1) 39 _ (0, 0) _ rfl Hbz.out Tryd.underlying39 rfl info28) rfl ⟨_, _, _, _, _, by have := HF.out; rw [Nat.pow_zero, Nat.div_one] at this; exact this, rfl, HU.out.step Huz.out (fun i hi h => by omega)⟩
end Go.Proofs.YtdpafemcpbhlfaaDoor
namespace Go.Proofs.YtdpafemcpbhlfaaDoor
set_option maxRecDepth 100000
open Go.RowKit

theorem digits_getD {B : Int} (hB : 0 < B) : ∀ (n i : Nat) (v : Int), i < n → (digits B n v).getD i 0 = v / B ^ i % B
  | 0, i, v, h => by omega
  | n + 1, 0, v, _ => by simp [digits]
  | n + 1, i + 1, v, h => by
    rw [digits, List.getD_cons_succ, digits_getD hB n i (v / B) (by omega), Int.pow_succ, Int.mul_comm (B ^ i) B, Int.ediv_ediv_of_nonneg (Int.le_of_lt hB)]
theorem num_bit (e : Int) (h0 : 0 ≤ e) (j : Nat) (hj : j < 256) : ((e.toNat / 2 ^ j % 2 : Nat) : Int) = (digits 65536 16 e).getD (j / 16) 0 / 2 ^ (j % 16) % 2 := by
  rw [digits_getD (by omega) 16 (j / 16) e (by omega)]
  obtain ⟨E, rfl⟩ := Int.eq_ofNat_of_zero_le h0
  rw [Int.toNat_natCast]
  have e1 : E / 2 ^ j = E / 65536 ^ (j / 16) / 2 ^ (j % 16) := by
    rw [Nat.div_div_eq_div_mul]
    congr 1
    rw [show (65536 : Nat) = 2 ^ 16 from rfl, ← Nat.pow_mul, ← Nat.pow_add]
    congr 1
    omega
  have e2 : ((E : Int) / 65536 ^ (j / 16)) = ((E / 65536 ^ (j / 16) : Nat) : Int) := by simp
  rw [e1, e2]
  generalize E / 65536 ^ (j / 16) = q
  have hr : j % 16 < 16 := Nat.mod_lt _ (by omega)
  generalize j % 16 = r at *
  have : r = 0 ∨ r = 1 ∨ r = 2 ∨ r = 3 ∨ r = 4 ∨ r = 5 ∨ r = 6 ∨ r = 7 ∨ r = 8 ∨ r = 9 ∨ r = 10 ∨ r = 11 ∨ r = 12 ∨ r = 13 ∨ r = 14 ∨ r = 15 := by omega
  rcases this with rfl | rfl | rfl | rfl | rfl | rfl | rfl | rfl | rfl | rfl | rfl | rfl | rfl | rfl | rfl | rfl <;> simp only [Nat.reducePow, Int.reducePow] <;> omega
theorem toNat_top (e : Int) (h0 : 0 ≤ e) (h1 : e < 115792089237316195423570985008687907853269984665640564039457584007913129639936) : e.toNat / 2 ^ 256 = 0 := by
  apply Nat.div_eq_of_lt
  rw [show (2 : Nat) ^ 256 = 115792089237316195423570985008687907853269984665640564039457584007913129639936 by decide]
  omega
/-- The blocks of the reference's Power: both arguments, the result, what is made. -/
structure RPow (w wr : World) (g : Nat) (u e s : Int) : Prop where
  upd : Upd (fun _ => False) w wr
  a : Blk wr w.heap.size 45 (numN u)
  b : Blk wr (w.heap.size + 1) 45 (numN e)
  res : Blk wr (w.heap.size + 1 + 1) 45 zeroN
  g : Blk wr g 45 (numN s)
theorem RPow.call {w wr wz : World} {g : Nat} {u e s : Int} (h : RPow w wr g u e s) (hu : Upd (fun _ => False) wr wz) : RPow w wz g u e s :=
  ⟨h.upd.trans hu, hu.blk h.a (fun h => h), hu.blk h.b (fun h => h), hu.blk h.res (fun h => h), hu.blk h.g (fun h => h)⟩
theorem RPow.put {w wr wz : World} {g : Nat} {u e s t : Int} (h : RPow w wr g u e s) (hg : w.heap.size + 1 + 1 < g) (hu : Upd (· = g) wr wz) (hb : Blk wz g 45 (numN t)) : RPow w wz g u e t :=
  ⟨h.upd.step hu (fun i hi h => by omega), hu.blk h.a (show ¬ w.heap.size = g by omega), hu.blk h.b (show ¬ w.heap.size + 1 = g by omega), hu.blk h.res (show ¬ w.heap.size + 1 + 1 = g by omega), hb⟩
set_option maxHeartbeats 2000000 in
theorem rPower_any (u m e : Int) (w : World) (hu : NumOk u m) (he0 : 0 ≤ e) (he1 : e < 115792089237316195423570985008687907853269984665640564039457584007913129639936) :
    Calls Tryd.prog 90 #[.agg (numN u), .agg (numN e)] w (RetN (m ^ e.toNat) w) := by
  have hz := zeroN_run
  have Hu := Lib.hid hu
  have Htop := Lib.hid (toNat_top e he0 he1)
  have Hbit := Lib.hid (num_bit e he0)
  have HG := Lib.hid (fun j => (digs16 e).get (B := 65536) (by omega) j)
  have HNu := Lib.hid (numN_size u)
  clear hu he0 he1
  go_enter Tryd.func90, Tryd.ntmps90
  go_wp2_with fail
  refine (rSmall_any 1 _ (by omega) (by omega)).mono ?_
  rintro e0 w0 ⟨rfl, hu⟩
  have hz0 : w.heap.size + 1 + 1 < w0.heap.size := by have := hu.size; simp at this; omega
  have HN1 := Lib.hid (numN_size 1)
  go_wp2_with (refine wpList_storeBlk2 rfl 45 _ _ rfl w0.heap.size 0 16 rfl (numN 1) rfl 45 zeroN (Blk.at1 w0 _ _) sizeNum HN1.out (by rw [zeroN_size]; omega) (numsA_one _ _) ?_; intro w1 hb1 hu1 hz1; rw [splice_all _ _ 16 zeroN_size HN1.out] at hb1; have Hb1 := Lib.hid hb1; have Hu1 := Lib.hid hu1; clear hb1 hu1 hz1)
  have HR : Hid (RPow w w1 w0.heap.size u e 1) :=
    ⟨((((((Upd.refl (fun _ => False) w).alloc _).alloc _).alloc _).trans hu).alloc _).step Hu1.out (fun i hi h => by omega), Hu1.out.blk ((hu.blk (((Blk.at1 w _ _).alloc _).alloc _) (fun h => h)).alloc _) (show ¬ w.heap.size = w0.heap.size by omega), Hu1.out.blk ((hu.blk ((Blk.at2 w _ _ _).alloc _) (fun h => h)).alloc _) (show ¬ w.heap.size + 1 = w0.heap.size by omega), Hu1.out.blk ((hu.blk (Blk.at3 w _ _ _ _) (fun h => h)).alloc _) (show ¬ w.heap.size + 1 + 1 = w0.heap.size by omega), Hb1.out⟩
  clear hu Hu1 Hb1
  generalize w0.heap.size = g at *
  go_loopw [6] (fun i wr => ∃ (k : Nat) (s : Int), k ≤ 256 ∧ i = .int .i64 ((k : Int) - 1) ∧ NumOk s (m ^ (e.toNat / 2 ^ k)) ∧ RPow w wr g u e s) (fun i _ => (intOf i + 1).toNat)
  case atStart => exact ⟨256, 1, by omega, rfl, by rw [Htop.out, Int.pow_zero]; exact okNum (by omega) (by omega), HR.out⟩
  case round =>
    clear HR
    obtain ⟨k, s, hk, rfl, hok, hrel⟩ := hrel
    have HK := Lib.hid hok
    have HR := Lib.hid hrel
    have HNs := Lib.hid (numN_size s)
    clear hok hrel
    by_cases hlt : 0 < k
    · obtain ⟨j, rfl⟩ : ∃ j, k = j + 1 := ⟨k - 1, by omega⟩
      have e1 : ((j + 1 : Nat) : Int) - 1 = (j : Int) := by omega
      rw [e1]
      clear e1 hlt
      go_wp2_with (refine wpList_loadBlk rfl 45 _ rfl g 0 16 rfl 45 (numN s) _ HR.out.g Tryd.underlying45 rfl sizeNum (by rw [HNs.out]; omega) ?_; rw [extract_all _ _ HNs.out])
      refine (rMul_any s s _ _ _ HK.out HK.out).mono ?_
      rintro e0 w2 ⟨z, hz2, rfl, hu⟩
      have HR2 := Lib.hid (HR.out.call hu)
      have HZ := Lib.hid hz2
      have HNz := Lib.hid (numN_size z)
      have c1 : ∀ wq, RPow w wq g u e z → wq.cell? ⟨w.heap.size + 1, j / 16, none⟩ = some (.int .u64 ((digits 65536 16 e).getD (j / 16) 0)) := fun wq hq => by rw [hq.b.cell]; unfold numN; rw [numsA_get _ _ _ (by rw [digits_length]; omega)]
      have C1 := Lib.hid c1
      have hb := HG.out (j / 16)
      have HbJ := Lib.hid (Hbit.out j (by omega))
      clear hu hz2 HR HK c1
      generalize (digits 65536 16 e).getD (j / 16) 0 = x at *
      go_wp2_with (refine wpList_storeBlk2 rfl 45 _ _ rfl g 0 16 rfl (numN z) rfl 45 _ HR2.out.g sizeNum HNz.out (by rw [HNs.out]; omega) (numsA_one _ _) ?_; intro w3 hb3 hu3 hz3; rw [splice_all _ _ 16 HNs.out HNz.out] at hb3; have HR3 := Lib.hid (HR2.out.put (by omega) hu3 hb3); have c1 := C1.out _ HR3.out; clear hb3 hu3 hz3)
      clear HR2 c1
      go_loopw [7, 8] (fun b n wr => ∃ t : Nat, t ≤ j % 16 ∧ n = .int .i64 t ∧ b = .int .u64 (x / 2 ^ t) ∧ RPow w wr g u e z) (fun _ n _ => 16 - (intOf n).toNat)
      case atStart => exact ⟨0, by omega, rfl, by simp, HR3.out⟩
      case round =>
        clear HR3
        obtain ⟨t, ht, rfl, rfl, hrel⟩ := hrel
        have Hrel := Lib.hid hrel
        clear hrel
        obtain ⟨y, hy⟩ : ∃ y, y = x / 2 ^ t := ⟨_, rfl⟩
        have hyb : 0 ≤ y ∧ y < 65536 := by
          rw [hy]
          exact ⟨Int.ediv_nonneg hb.1 (Int.le_of_lt (Int.pow_pos (by omega))), Int.lt_of_le_of_lt (Int.ediv_le_self _ hb.1) hb.2⟩
        have Hy := Lib.hid hy
        rw [← hy]
        clear hy
        obtain ⟨hy0, hy1⟩ := hyb
        by_cases hlt : t < j % 16
        · go_wp2
          refine ⟨⟨t + 1, by omega, by go_num, ?_, Hrel.out⟩, by simp [intOf]; omega⟩
          rw [Hy.out, Int.pow_succ, Int.ediv_ediv_of_nonneg (Int.le_of_lt (Int.pow_pos (by omega)))]
        · obtain rfl : t = j % 16 := by omega
          have hnd : decide (((j % 16 : Nat) : Int) < ((j % 16 : Nat) : Int)) = false := by simp
          rw [← Hy.out] at HbJ
          by_cases hbit : y % 2 = 1
          · have Hst : Hid (e.toNat / 2 ^ j % 2 = 1) := by
              have := HbJ.out
              show _ = _
              omega
            have hb1 : (y % 2 == 1) = true := by simp [hbit]
            go_wp2_with (first
              | (refine wpList_loadBlk rfl 45 _ rfl g 0 16 rfl 45 (numN z) _ Hrel.out.g Tryd.underlying45 rfl sizeNum (by rw [HNz.out]; omega) ?_; rw [extract_all _ _ HNz.out])
              | (refine wpList_loadBlk rfl 45 _ rfl w.heap.size 0 16 rfl 45 (numN u) _ Hrel.out.a Tryd.underlying45 rfl sizeNum (by rw [HNu.out]; omega) ?_; rw [extract_all _ _ HNu.out]))
            refine (rMul_any z u _ _ _ HZ.out Hu.out).mono ?_
            rintro e0 w4 ⟨v, hv, rfl, hu⟩
            have HR4 := Lib.hid (Hrel.out.call hu)
            have HV := Lib.hid hv
            have HNv := Lib.hid (numN_size v)
            clear hu hv Hrel
            go_wp2_with (refine wpList_storeBlk2 rfl 45 _ _ rfl g 0 16 rfl (numN v) rfl 45 _ HR4.out.g sizeNum HNv.out (by rw [HNz.out]; omega) (numsA_one _ _) ?_; intro w5 hb5 hu5 hz5; rw [splice_all _ _ 16 HNz.out HNv.out] at hb5; have HR5 := Lib.hid (HR4.out.put (by omega) hu5 hb5); clear hb5 hu5 hz5)
            refine ⟨⟨j, v, by omega, rfl, ?_, HR5.out⟩, by simp [intOf]⟩
            rw [← pow_step1 m _ j Hst.out]
            exact HV.out
          · have Hst : Hid (e.toNat / 2 ^ j % 2 = 0) := by
              have := HbJ.out
              show _ = _
              omega
            have hb1 : (y % 2 == 1) = false := by simpa using hbit
            go_wp2
            refine ⟨⟨j, z, by omega, rfl, ?_, Hrel.out⟩, by simp [intOf]⟩
            rw [← pow_step m _ j Hst.out]
            exact HZ.out
    · obtain rfl : k = 0 := by omega
      have hzz : decide ((0 : Int) ≤ ((0 : Nat) : Int) - 1) = false := by decide
      go_wp2_with (first
        | (refine wpList_loadBlk rfl 45 _ rfl g 0 16 rfl 45 (numN s) _ HR.out.g Tryd.underlying45 rfl sizeNum (by rw [HNs.out]; omega) ?_; rw [extract_all _ _ HNs.out])
        | (refine wpList_storeBlk2 rfl 45 _ _ rfl (w.heap.size + 1 + 1) 0 16 rfl (numN s) rfl 45 _ HR.out.res sizeNum HNs.out (by rw [zeroN_size]; omega) (numsA_one _ _) ?_; intro wz hbz huz hzz; rw [splice_all _ _ 16 zeroN_size HNs.out] at hbz; have Hbz := Lib.hid hbz; have Huz := Lib.hid huz; clear hbz huz hzz))
      refine bodyPost_ret (v := .agg (numN s)) (results_cell_row (fn := Tryd.f90) (p := 4) (ty := 45) rfl _ _ (w.heap.size + 1 + 1) 45 _ (0, 0) _ rfl Hbz.out Tryd.underlying45 rfl (by rw [HNs.out]; exact sizeNum)) rfl ⟨s, ?_, rfl, HR.out.upd.step Huz.out (fun i hi h => by omega)⟩
      have := HK.out
      rw [Nat.pow_zero, Nat.div_one] at this
      exact this
end Go.Proofs.YtdpafemcpbhlfaaDoor
