/-
  The walk of the reference's Reduce.
-/
import Derived.Test.YtmfjlicchgacmaaDoorRef3
import Derived.Laws.BytesArg
namespace Go.Proofs.YtmfjlicchgacmaaDoor
open Go.RowKit

theorem str_get {l : List Int} (hd : Digs 256 l) (k : Nat) (hk : k < l.length) (w : World) : (Instr.index 9 (.string (strOfNums l)) (.int .i64 k)).run Tryd.prog w = .ok (.int .u8 (l.getD k 0)) w := by
  have hg := hd.get (B := 256) (by omega) k
  have hsz := strOfNums_size l
  rw [run_index_string w 9 (strOfNums l) .i64 k Tryd.underlying9, dif_pos ⟨by omega, by omega⟩]
  congr 2
  have e : l.getD k 0 = l[k] := by simp [List.getD_eq_getElem?_getD, hk]
  rw [e] at hg
  rw [e]
  show (((strOfNums l).data[(k : Int).toNat]'_).toNat : Int) = _
  simp only [strOfNums, Int.toNat_natCast, List.getElem_toArray, List.getElem_map]
  simp
  omega
set_option maxRecDepth 100000 in
set_option maxHeartbeats 2000000 in
theorem rReduce_any (l : List Int) (n : Nat) (w : World) (hl : l.length = n) (hn : n ≤ 1000) (hd : Digs 256 l) :
    Calls Tryd.prog 10 #[.string (strOfNums l)] w fun e w' => e = .returned (.agg (numsA .u8 (digits 256 32 (dig 256 l % oo)))) ∧ Upd (fun _ => False) w w' := by
  have hz := zeroK_run
  have hsize : (strOfNums l).size = n := by rw [strOfNums_size]; exact hl
  have Hi := Lib.hid (fun k hk => str_get hd k hk)
  have Hl := Lib.hid hl
  have Hd := Lib.hid hd
  clear hl hd
  have Hb0 := Lib.hid (Blk.at1 w zeroK 25)
  generalize strOfNums l = s at *
  go_enter Tryd.func10, Tryd.ntmps10
  go_wp2_with (refine wpList_makeBlk rfl _ _ 34 rfl 3 (.int .i64 0) 8 Tryd.underlying34 infoIz rfl _ _ _ _ n rfl rfl (by omega) (by omega) (by omega) (by omega) ?_; intro w1 hb1 hu1 hz1; have Hs1 := Lib.hid hb1; have Hu1 := Lib.hid hu1; clear hb1 hu1 hz1)
  have hsz : (w.alloc (.cells zeroK 25)).heap.size = w.heap.size + 1 := by simp
  have HR : Hid (DRel (w.alloc (.cells zeroK 25)) w1 (w.heap.size + 1) (fillTo (fun j => l.getD j 0) n 0)) := by
    refine ⟨Hu1.out, ?_⟩
    rw [fillTo_zero, numsA_replicate, ← hsz]
    exact Hs1.out
  clear Hs1 Hu1
  have HU0 := Lib.hid ((Upd.refl (fun _ => False) w).alloc (.cells zeroK 25))
  generalize w.alloc (.cells zeroK 25) = w0 at *
  go_loopw [4] (fun i wr => ∃ k : Nat, k ≤ n ∧ i = .int .i64 k ∧ DRel w0 wr (w.heap.size + 1) (fillTo (fun j => l.getD j 0) n k)) (fun i _ => n - (intOf i).toNat)
  case atStart => exact ⟨0, by omega, rfl, HR.out⟩
  case round =>
    clear HR
    obtain ⟨k, hk, rfl, hrel⟩ := hrel
    by_cases hlt : k < n
    · have c1 := hrel.cell k (by rw [fillTo_length]; omega)
      have hi := Hi.out k (by rw [Hl.out]; exact hlt)
      have hfr := hrel.r.frozen
      have hg := Hd.out.get (B := 256) (by omega) k
      have hn1 := hrel.set (by omega) k (l.getD k 0)
      rw [fillTo_succ (fun j => l.getD j 0) n k] at hn1
      have Hn1 := Lib.hid hn1
      clear hrel hn1
      generalize l.getD k 0 = x at *
      generalize (fillTo (fun j => l.getD j 0) n k).getD k 0 = y at *
      go_wp2
      exact ⟨⟨k + 1, by omega, by go_num, Hn1.out⟩, by simp [intOf]; omega⟩
    · obtain rfl : k = n := by omega
      have hd8 : decide ((k : Int) < (k : Int)) = false := by simp
      rw [fill_list k Hl.out] at hrel
      have HRel := Lib.hid hrel
      clear hrel
      go_wp2_with fail
      refine (rMod_any (w.heap.size + 1) k k l _ Hl.out (by omega) (CellsI.of HRel.out.r) Hd.out).mono ?_
      rintro e w7 ⟨rfl, hu⟩
      have Hres7 := Lib.hid (hu.blk (HRel.out.upd.blk Hb0.out (fun h => h)) (fun h => h))
      have Hu7 := Lib.hid ((HU0.out.trans HRel.out.upd).trans hu)
      have HSz : Hid ((numsA .u8 (digits 256 32 (dig 256 l % oo))).size = 32) := by show _ = _; rw [numsA_size, digits_length]
      clear hu
      generalize hrv : dig 256 l % oo = rv at *
      have Hrv := Lib.hid hrv
      clear hrv
      go_wp2_with (refine wpList_storeBlk2 rfl 25 _ _ rfl w.heap.size 0 32 rfl (numsA .u8 (digits 256 32 rv)) rfl 25 _ Hres7.out sizeKey HSz.out (by rw [zeroK_size]; omega) (numsA_one _ _) ?_; intro wz hbz huz hzz; rw [splice_all _ _ 32 zeroK_size HSz.out] at hbz; have Hbz := Lib.hid hbz; have Huz := Lib.hid huz; clear hbz huz hzz)
      exact bodyPost_ret (v := .agg (numsA .u8 (digits 256 32 rv))) (results_cell_row (fn := Tryd.f10) (p := 2) (ty := 25) rfl _ _ w.heap.size 25 _ (0, 0) _ rfl Hbz.out Tryd.underlying25 rfl (by rw [HSz.out]; exact sizeKey)) rfl ⟨by rw [Hrv.out], Hu7.out.step Huz.out (fun i hi h => by omega)⟩
end Go.Proofs.YtmfjlicchgacmaaDoor
