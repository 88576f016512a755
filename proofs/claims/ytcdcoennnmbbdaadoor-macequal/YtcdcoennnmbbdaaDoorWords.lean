/-
  The walk of words256.
-/
import Derived.Test.YtcdcoennnmbbdaaDoorLeaf
import Derived.Test.YtcdcoennnmbbdaaDoorLaws
import Derived.Lib.Hide
namespace Go.Proofs.YtcdcoennnmbbdaaDoor
open Go.RowKit


/-- What holds of the world while the words are laid: l so far. -/
structure WRel (w wr : World) (l : List Int) : Prop where
  upd : Upd (fun _ => False) w wr
  sz : wr.heap.size = w.heap.size + 2
  res : ∃ arr, Blk wr w.heap.size 78 arr ∧ arr.size = 64
  arr : ∃ arr, Blk wr (w.heap.size + 1) 78 arr ∧ arr.size = 64 ∧ Nums arr .u32 0 64 (fun j => l.getD j 0)

theorem WRel.push {w wr : World} {l : List Int} (h : WRel w wr l) (hl : l.length < 64) (x : Int) (n : Nat) :
    WRel w ((wr.drewN n).setCell ⟨w.heap.size + 1, l.length, none⟩ (.int .u32 x)) (l ++ [x]) := by
  obtain ⟨a1, h1, s1⟩ := h.res
  obtain ⟨a2, h2, s2, n2⟩ := h.arr
  refine ⟨(h.upd.drewN n).set _ (by simp), by simpa [World.setCell] using h.sz, ⟨a1, (h1.drewN n).setOther (by simp) _, s1⟩, ⟨_, (h2.drewN n).set _ _, by simpa using s2, ?_⟩⟩
  have := n2.setIn l.length hl x
  rw [Nat.zero_add] at this
  exact this.congr fun j hj => (getD_snoc l x j).symm

theorem nums_zero (n : Nat) (k : IntKind) : Nums (Array.replicate n (.int k 0)) k 0 n (fun j => ([] : List Int).getD j 0) := by
  intro j hj
  simp [hj]
theorem WRel.start (w : World) (a1 a2 : Array Value) (h1 : a1.size = 64) (h2 : a2 = Array.replicate 64 (.int .u32 0)) : WRel w ((w.alloc (.cells a1 78)).alloc (.cells a2 78)) [] := by
  refine ⟨((Upd.refl _ w).alloc _).alloc _, by simp, ⟨a1, (Blk.new w a1 78).alloc _, h1⟩, ⟨a2, ?_, by simp [h2], by rw [h2]; exact nums_zero 64 .u32⟩⟩
  have := Blk.new (w.alloc (.cells a1 78)) a2 78
  simpa using this
theorem info78 : (Tryd.prog.info? 78).map (·.size) = some 64 := by kernel_rfl

set_option maxHeartbeats 1000000 in
theorem words256_any (b off len cap : Nat) (f : Nat → Int) (w : World) (hl : 64 ≤ len) (hlm : len ≤ 140737488351232) (hcap : len ≤ cap)
   (hc : ∀ j, j < 64 → w.cell? ⟨b, off + j, none⟩ = some (.int .u8 (f j))) :
    Calls Tryd.prog 33 #[.slice (some ⟨b, off, none⟩) len cap] w fun e w' => ∃ va, e = .returned (.agg va) ∧ va.size = 64 ∧ Nums va .u32 0 64 (fun j => (sched f 48).getD j 0) ∧ Upd (fun _ => False) w w' := by
  go_enter Tryd.func33, Tryd.ntmps33
  go_wp2
  go_loopw [10] (fun i wr => ∃ k : Nat, k ≤ 16 ∧ i = .int .i64 k ∧ WRel w wr (words0 f k)) (fun i _ => 16 - (intOf i).toNat)
  case atStart => exact ⟨0, by omega, rfl, WRel.start w _ _ rfl rfl⟩
  case round =>
    obtain ⟨k, hk, rfl, hrel⟩ := hrel
    by_cases hlt : k < 16
    · go_wp2_with fail
      refine (word32_any b (off + 4 * k) (len - 4 * k) (cap - 4 * k) (fun i => f (4 * k + i)) wr (by omega) ?_).mono ?_
      · intro j hj
        have := hc (4 * k + j) (by omega)
        rw [show off + 4 * k + j = off + (4 * k + j) by omega]
        exact hrel.upd.cell this (fun h => h)
      rintro e w' ⟨rfl, n, rfl⟩
      obtain ⟨arr, hblk, hsz, hnum⟩ := hrel.arr
      have hcell : wr.cell? ⟨w.heap.size + 1, k, none⟩ = some (.int .u32 ((words0 f k).getD k 0)) := by rw [hblk.cell]; simpa using hnum k (by omega)
      have hfr : wr.frozen? ⟨w.heap.size + 1, k, none⟩ = false := hblk.frozen k
      clear hnum hsz hblk
      go_wp2
      go_roundw
      case rel =>
        have := hrel.push (by rw [words0_length]; omega) (word32 fun i => f (4 * k + i)) n
        rw [words0_length, ← words0_succ] at this
        exact ⟨k + 1, by omega, by go_num, this⟩
      case measure => simp [intOf]; omega
    · have hrel0 : WRel w wr (sched f 0) := by
        obtain rfl : k = 16 := by omega
        exact hrel
      have hkd : decide ((k : Int) < 16) = false := by simp; omega
      clear hrel
      go_wp2
      go_loopw [5] (fun i wr => ∃ m : Nat, 16 ≤ m ∧ m ≤ 64 ∧ i = .int .i64 m ∧ WRel w wr (sched f (m - 16))) (fun i _ => 64 - (intOf i).toNat)
      case atStart => exact ⟨16, by omega, by omega, rfl, hrel0⟩
      case round =>
        clear hrel0
        obtain ⟨m, hm, hm', rfl, hrel⟩ := hrel
        obtain ⟨arr, hblk, hsz, hnum⟩ := hrel.arr
        have hlen := sched_length f (m - 16)
        have hcs : ∀ j, j < 64 → wr.cell? ⟨w.heap.size + 1, j, none⟩ = some (.int .u32 ((sched f (m - 16)).getD j 0)) := fun j hj => by rw [hblk.cell]; simpa using hnum j hj
        by_cases hlt : m < 64
        · have Hn : Hid (wnext (sched f (m - 16)) = (sml256 17 19 1024 ((sched f (m - 16)).getD (m - 2) 0) + (sched f (m - 16)).getD (m - 7) 0 + sml256 7 18 8 ((sched f (m - 16)).getD (m - 15) 0) + (sched f (m - 16)).getD (m - 16) 0) % 4294967296) := by
            show wnext _ = _
            unfold wnext
            rw [hlen, show 16 + (m - 16) = m by omega]
          have Hlen : Hid ((sched f (m - 16)).length = m) := show _ = m by omega
          have c2 := hcs (m - 2) (by omega)
          have c7 := hcs (m - 7) (by omega)
          have c15 := hcs (m - 15) (by omega)
          have c16 := hcs (m - 16) (by omega)
          have c0 := hcs m (by omega)
          have hfr : wr.frozen? ⟨w.heap.size + 1, m, none⟩ = false := hblk.frozen _
          clear hnum hlen hcs hsz hblk hc
          generalize (sched f (m - 16)).getD (m - 2) 0 = x2 at *
          generalize (sched f (m - 16)).getD (m - 7) 0 = x7 at *
          generalize (sched f (m - 16)).getD (m - 15) 0 = x15 at *
          generalize (sched f (m - 16)).getD (m - 16) 0 = x16 at *
          generalize (sched f (m - 16)).getD m 0 = x0 at *
          have q1 : IntKind.i64.wrap ((m : Int) - 15) = (m : Int) - 15 := IntWalk.i64_in _ (by omega)
          have q2 : ((m : Int) - 15).toNat = m - 15 := by omega
          have q3 : (0 : Int) ≤ (m : Int) - 15 := by omega
          have q4 : IntKind.i64.wrap ((m : Int) - 2) = (m : Int) - 2 := IntWalk.i64_in _ (by omega)
          have q5 : ((m : Int) - 2).toNat = m - 2 := by omega
          have q6 : (0 : Int) ≤ (m : Int) - 2 := by omega
          go_wp2
          go_quiet (fail)
          clear q1 q2 q3 q4 q5 q6
          go_wp2_with fail
          refine (rot_any _ _ 7 (by omega) (by omega) (by decide) _).mono ?_
          rintro e w' ⟨rfl, rfl⟩
          go_wp2_with fail
          refine (rot_any _ _ 18 (by omega) (by omega) (by decide) _).mono ?_
          rintro e w' ⟨rfl, rfl⟩
          go_wp2_with fail
          refine (rot_any _ _ 17 (by omega) (by omega) (by decide) _).mono ?_
          rintro e w' ⟨rfl, rfl⟩
          go_wp2_with fail
          refine (rot_any _ _ 19 (by omega) (by omega) (by decide) _).mono ?_
          rintro e w' ⟨rfl, rfl⟩
          go_wp2_with fail
          have q1 : IntKind.i64.wrap ((m : Int) - 7) = (m : Int) - 7 := IntWalk.i64_in _ (by omega)
          have q2 : ((m : Int) - 7).toNat = m - 7 := by omega
          have q3 : (0 : Int) ≤ (m : Int) - 7 := by omega
          have q4 : IntKind.i64.wrap ((m : Int) - 16) = (m : Int) - 16 := IntWalk.i64_in _ (by omega)
          have q5 : ((m : Int) - 16).toNat = m - 16 := by omega
          have q6 : (0 : Int) ≤ (m : Int) - 16 := by omega
          go_region
          clear q1 q2 q3 q4 q5 q6
          go_wp2
          go_roundw
          case rel =>
            have := hrel.push (by rw [Hlen.out]; omega) (wnext (sched f (m - 16))) (nq + 1)
            rw [Hlen.out] at this
            refine ⟨m + 1, by omega, by omega, by go_num, ?_⟩
            rw [show m + 1 - 16 = (m - 16) + 1 by omega, sched]
            rw [Hn.out] at this ⊢
            exact this
          case measure => simp [intOf]; omega
        · obtain rfl : m = 64 := by omega
          obtain ⟨ra, hra, sra⟩ := hrel.res
          have hu := hrel.upd
          have hone := hnum.one hsz
          have Hnum := Lib.hid hnum
          clear hnum hcs hrel hlen
          go_wp2_with (first | (refine wpList_loadBlk rfl 78 _ rfl (w.heap.size + 1) 0 64 rfl 78 arr _ hblk Tryd.underlying78 rfl info78 (by omega) ?_; rw [extract_all _ _ hsz]) | (refine wpList_storeBlk rfl 78 _ _ rfl w.heap.size 0 64 rfl arr rfl 78 ra hra info78 hsz (by omega) hone ?_; rw [splice_all _ _ _ sra hsz]))
          have hfin := hra.row arr
          refine bodyPost_ret (v := .agg arr) (results_cell_row (fn := Tryd.f33) (p := 2) (ty := 78) rfl _ _ w.heap.size 78 arr (0, 0) _ rfl hfin Tryd.underlying78 rfl (by rw [hsz]; exact info78)) rfl ⟨arr, rfl, hsz, Hnum.out, hu.row _ (by simp)⟩
end Go.Proofs.YtcdcoennnmbbdaaDoor
