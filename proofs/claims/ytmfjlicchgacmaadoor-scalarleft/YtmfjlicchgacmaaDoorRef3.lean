/-
  The walks of the reference's MulAdd and Reduce.
-/
import Derived.Test.YtmfjlicchgacmaaDoorRef2
namespace Go.Proofs.YtmfjlicchgacmaaDoor
open Go.RowKit

set_option maxRecDepth 100000 in
set_option maxHeartbeats 2000000 in
theorem rMulAdd_any (la lb lc : List Int) (w : World) (hla : la.length = 32) (hda : Digs 256 la) (hlb : lb.length = 32) (hdb : Digs 256 lb) (hlc : lc.length = 32) (hdc : Digs 256 lc) :
    Calls Tryd.prog 12 #[.agg (numsA .u8 la), .agg (numsA .u8 lb), .agg (numsA .u8 lc)] w fun e w' => e = .returned (.agg (numsA .u8 (digits 256 32 ((dig 256 la * dig 256 lb + dig 256 lc) % oo)))) ∧ Upd (fun _ => False) w w' := by
  have hz := zeroK_run
  have Hla := Lib.hid hla
  have Hda := Lib.hid hda
  have Hlb := Lib.hid hlb
  have Hdb := Lib.hid hdb
  have Hlc := Lib.hid hlc
  have Hdc := Lib.hid hdc
  clear hla hda hlb hdb hlc hdc
  have Hb0 := Lib.hid ((((Blk.at1 w (numsA .u8 la) 25).alloc (.cells (numsA .u8 lb) 25)).alloc (.cells (numsA .u8 lc) 25)).alloc (.cells zeroK 25))
  have Hb1 := Lib.hid (((Blk.at2 w (.cells (numsA .u8 la) 25) (numsA .u8 lb) 25).alloc (.cells (numsA .u8 lc) 25)).alloc (.cells zeroK 25))
  have Hb2 := Lib.hid ((Blk.at3 w (.cells (numsA .u8 la) 25) (.cells (numsA .u8 lb) 25) (numsA .u8 lc) 25).alloc (.cells zeroK 25))
  have Hb3 := Lib.hid (Blk.at4 w (.cells (numsA .u8 la) 25) (.cells (numsA .u8 lb) 25) (.cells (numsA .u8 lc) 25) zeroK 25)
  have HU0 := Lib.hid (((((Upd.refl (fun _ => False) w).alloc (.cells (numsA .u8 la) 25)).alloc (.cells (numsA .u8 lb) 25)).alloc (.cells (numsA .u8 lc) 25)).alloc (.cells zeroK 25))
  go_enter Tryd.func12, Tryd.ntmps12
  go_wp2_with (refine wpList_makeBlk rfl _ _ 34 rfl 3 (.int .i64 0) 8 Tryd.underlying34 infoIz rfl _ _ _ _ 66 rfl rfl (by omega) (by omega) (by omega) (by omega) ?_; intro w1 hb1 hu1 hz1; have Hs1 := Lib.hid hb1; have Hu1 := Lib.hid hu1; clear hb1 hu1 hz1)
  have hsz : ((((w.alloc (.cells (numsA .u8 la) 25)).alloc (.cells (numsA .u8 lb) 25)).alloc (.cells (numsA .u8 lc) 25)).alloc (.cells zeroK 25)).heap.size = w.heap.size + 1 + 1 + 1 + 1 := by simp
  have HR : Hid (DRel ((((w.alloc (.cells (numsA .u8 la) 25)).alloc (.cells (numsA .u8 lb) 25)).alloc (.cells (numsA .u8 lc) 25)).alloc (.cells zeroK 25)) w1 (w.heap.size + 1 + 1 + 1 + 1) (List.replicate 66 0)) := by
    refine ⟨Hu1.out, ?_⟩
    rw [numsA_replicate, ← hsz]
    exact Hs1.out
  clear Hs1 Hu1
  generalize (((w.alloc (.cells (numsA .u8 la) 25)).alloc (.cells (numsA .u8 lb) 25)).alloc (.cells (numsA .u8 lc) 25)).alloc (.cells zeroK 25) = w0 at *
  have HC0 := Lib.hid (ConvR.start la lb lc)
  go_loopw [8] (fun i wr => ∃ (k : Nat) (S : List Int), k ≤ 32 ∧ i = .int .i64 k ∧ ConvR la lb lc S k ∧ DRel w0 wr (w.heap.size + 1 + 1 + 1 + 1) S) (fun i _ => 32 - (intOf i).toNat)
  case atStart => exact ⟨0, _, by omega, rfl, HC0.out, HR.out⟩
  case round =>
    clear HR HC0
    obtain ⟨i, S, hi, rfl, hconv, hrel⟩ := hrel
    by_cases hlt : i < 32
    · have c1 := hrel.cell i (by rw [hconv.len]; omega)
      have c2 : wr.cell? ⟨w.heap.size + 1 + 1, i, none⟩ = some (.int .u8 (lc.getD i 0)) := by rw [(hrel.upd.blk Hb2.out (fun h => h)).cell, numsA_get _ _ _ (by rw [Hlc.out]; omega)]
      have hfr := hrel.r.frozen
      have hg := Hdc.out.get (B := 256) (by omega) i
      have hs0 := hconv.lo i
      have hs1 := hconv.hi i
      have Hc1 := Lib.hid (hconv.add hlt Hlc.out Hdc.out)
      have Hn1 := Lib.hid (hrel.set (by omega) i (S.getD i 0 + lc.getD i 0)).drew
      clear hrel hconv
      generalize hS1 : S.set i (S.getD i 0 + lc.getD i 0) = S1 at *
      generalize lc.getD i 0 = x at *
      generalize S.getD i 0 = y at *
      clear hS1
      go_wp2
      go_region
      go_wp2
      generalize (wr.setCell ⟨w.heap.size + 1 + 1 + 1 + 1, i, none⟩ (.int .i64 (y + x))).drew = w2 at *
      clear c1 c2 hfr
      go_loopw [9] (fun j wr => ∃ (k : Nat) (S : List Int), k ≤ 32 ∧ j = .int .i64 k ∧ ConvO la lb lc S i k ∧ DRel w0 wr (w.heap.size + 1 + 1 + 1 + 1) S) (fun j _ => 32 - (intOf j).toNat)
      case atStart => exact ⟨0, _, by omega, rfl, Hc1.out, Hn1.out⟩
      case round =>
        clear Hn1 Hc1
        obtain ⟨k, S, hk, rfl, hconv, hrel⟩ := hrel
        by_cases hlt2 : k < 32
        · have c1 := hrel.cell (i + k) (by rw [hconv.len]; omega)
          have c2 : wr.cell? ⟨w.heap.size, i, none⟩ = some (.int .u8 (la.getD i 0)) := by rw [(hrel.upd.blk Hb0.out (fun h => h)).cell, numsA_get _ _ _ (by rw [Hla.out]; omega)]
          have c3 : wr.cell? ⟨w.heap.size + 1, k, none⟩ = some (.int .u8 (lb.getD k 0)) := by rw [(hrel.upd.blk Hb1.out (fun h => h)).cell, numsA_get _ _ _ (by rw [Hlb.out]; omega)]
          have hfr := hrel.r.frozen
          have ha := Hda.out.get (B := 256) (by omega) i
          have hb := Hdb.out.get (B := 256) (by omega) k
          have hs0 := hconv.lo (i + k)
          have hs1 := hconv.hi (i + k)
          obtain ⟨hnext, hp0, hp1⟩ := hconv.step hlt hlt2 Hlb.out Hda.out Hdb.out
          have Hnext := Lib.hid hnext
          have Hn1 := Lib.hid (hrel.set (by omega) (i + k) (S.getD (i + k) 0 + la.getD i 0 * lb.getD k 0)).drew
          clear hrel hconv hnext
          generalize hS1 : S.set (i + k) (S.getD (i + k) 0 + la.getD i 0 * lb.getD k 0) = S1 at *
          generalize la.getD i 0 = x at *
          generalize lb.getD k 0 = z at *
          generalize S.getD (i + k) 0 = y at *
          clear hS1
          have q1 : IntKind.i64.wrap (x * z) = x * z := IntWalk.i64_in _ (by omega)
          have q2 : IntKind.i64.wrap (y + x * z) = y + x * z := IntWalk.i64_in _ (by omega)
          go_wp2
          go_region
          go_wp2
          exact ⟨⟨k + 1, _, by omega, by go_num, Hnext.out, Hn1.out⟩, by simp [intOf]; omega⟩
        · obtain rfl : k = 32 := by omega
          have hd8 : decide (((32 : Nat) : Int) < 32) = false := by decide
          have Hnext := Lib.hid (hconv.next hlt Hla.out Hlb.out)
          have Hrel := Lib.hid hrel
          clear hrel hconv
          go_wp2
          exact ⟨⟨i + 1, _, by omega, by go_num, Hnext.out, Hrel.out⟩, by simp [intOf]; omega⟩
    · obtain rfl : i = 32 := by omega
      have hd8 : decide (((32 : Nat) : Int) < 32) = false := by decide
      have Hc0 := Lib.hid (CarO.start hconv)
      have heq := hconv.eq
      rw [dig_take_all _ _ _ (by rw [Hlc.out]; omega), dig_take_all _ _ _ (by rw [Hla.out]; omega)] at heq
      have Heq := Lib.hid heq
      have Hrel := Lib.hid hrel
      clear hrel hconv heq
      go_wp2
      generalize hS0 : S = S0 at *
      go_loopw [10] (fun j wr => ∃ (k : Nat) (S : List Int), k ≤ 65 ∧ j = .int .i64 k ∧ CarO S0 S k ∧ DRel w0 wr (w.heap.size + 1 + 1 + 1 + 1) S) (fun j _ => 65 - (intOf j).toNat)
      case atStart => exact ⟨0, _, by omega, rfl, Hc0.out, Hrel.out⟩
      case round =>
        clear Hrel Hc0 hS0
        obtain ⟨k, S, hk, rfl, hcar, hrel⟩ := hrel
        by_cases hlt2 : k < 65
        · have c1 := hrel.cell k (by rw [hcar.len]; omega)
          have c2 := hrel.cell (k + 1) (by rw [hcar.len]; omega)
          have hfr := hrel.r.frozen
          have l0 := hcar.lo k
          have l1 := hcar.lo (k + 1)
          have a0 := hcar.at'
          have a1 := hcar.hi (k + 1) (by omega)
          have hr2 := hrel.set (by omega) (k + 1) (S.getD (k + 1) 0 + S.getD k 0 / 256)
          have c3 := hr2.cell k (by rw [List.length_set, hcar.len]; omega)
          rw [getD_set_ne _ _ _ _ (by omega)] at c3
          have c3' : (wr.setCell ⟨w.heap.size + 1 + 1 + 1 + 1, k + 1, none⟩ (.int .i64 (S.getD (k + 1) 0 + S.getD k 0 / 256))).drew.cell? ⟨w.heap.size + 1 + 1 + 1 + 1, k, none⟩ = some (.int .i64 (S.getD k 0)) := c3
          have hfr2 := hr2.r.frozen
          have hfr3 : ∀ j, (wr.setCell ⟨w.heap.size + 1 + 1 + 1 + 1, k + 1, none⟩ (.int .i64 (S.getD (k + 1) 0 + S.getD k 0 / 256))).drew.frozen? ⟨w.heap.size + 1 + 1 + 1 + 1, j, none⟩ = false := hfr2
          have Hn1 := Lib.hid (hr2.drew.set (by omega) k (S.getD k 0 % 256))
          have Hnext := Lib.hid (hcar.step hlt2)
          clear hrel hcar hr2 c3 hfr2
          generalize hS1 : (S.set (k + 1) (S.getD (k + 1) 0 + S.getD k 0 / 256)).set k (S.getD k 0 % 256) = S1 at *
          generalize S.getD k 0 = x at *
          generalize S.getD (k + 1) 0 = y at *
          clear hS1
          have hdiv : Int.tdiv x 256 = x / 256 := Int.tdiv_eq_ediv_of_nonneg l0
          have hmod : Int.tmod x 256 = x % 256 := Int.tmod_eq_emod_of_nonneg l0
          have q2 : IntKind.i64.wrap (y + x / 256) = y + x / 256 := IntWalk.i64_in _ (by omega)
          go_wp2
          go_region
          go_wp2
          exact ⟨⟨k + 1, _, by omega, by go_num, Hnext.out, Hn1.out⟩, by simp [intOf]; omega⟩
        · obtain rfl : k = 65 := by omega
          have hd8 : decide (((65 : Nat) : Int) < 65) = false := by decide
          have HS := Lib.hid (hcar.done (by rw [Heq.out]; exact conv_small (key_bd Hla.out Hda.out) (key_bd Hlb.out Hdb.out) (key_bd Hlc.out Hdc.out)))
          have heq := hcar.eq
          rw [Heq.out, Int.add_comm] at heq
          have Heq2 := Lib.hid heq
          have Hlen := Lib.hid hcar.len
          have Hrel := Lib.hid hrel
          clear hrel hcar heq
          go_wp2_with fail
          refine (rMod_any (w.heap.size + 1 + 1 + 1 + 1) 66 66 S _ Hlen.out (by omega) (CellsI.of Hrel.out.r) HS.out).mono ?_
          rintro e w7 ⟨rfl, hu⟩
          rw [Heq2.out]
          have Hres7 := Lib.hid (hu.blk (Hrel.out.upd.blk Hb3.out (fun h => h)) (fun h => h))
          have Hu7 := Lib.hid ((HU0.out.trans Hrel.out.upd).trans hu)
          have HSz : Hid ((numsA .u8 (digits 256 32 ((dig 256 la * dig 256 lb + dig 256 lc) % oo))).size = 32) := by show _ = _; rw [numsA_size, digits_length]
          clear hu
          generalize hrv : (dig 256 la * dig 256 lb + dig 256 lc) % oo = rv at *
          have Hrv := Lib.hid hrv
          clear hrv
          go_wp2_with (refine wpList_storeBlk2 rfl 25 _ _ rfl (w.heap.size + 1 + 1 + 1) 0 32 rfl (numsA .u8 (digits 256 32 rv)) rfl 25 _ Hres7.out sizeKey HSz.out (by rw [zeroK_size]; omega) (numsA_one _ _) ?_; intro wz hbz huz hzz; rw [splice_all _ _ 32 zeroK_size HSz.out] at hbz; have Hbz := Lib.hid hbz; have Huz := Lib.hid huz; clear hbz huz hzz)
          exact bodyPost_ret (v := .agg (numsA .u8 (digits 256 32 rv))) (results_cell_row (fn := Tryd.f12) (p := 6) (ty := 25) rfl _ _ (w.heap.size + 1 + 1 + 1) 25 _ (0, 0) _ rfl Hbz.out Tryd.underlying25 rfl (by rw [HSz.out]; exact sizeKey)) rfl ⟨by rw [Hrv.out], Hu7.out.step Huz.out (fun i hi h => by omega)⟩
end Go.Proofs.YtmfjlicchgacmaaDoor
