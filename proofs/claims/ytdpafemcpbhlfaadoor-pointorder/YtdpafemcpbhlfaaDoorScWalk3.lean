/-
  The walk of Reduce.
-/
import Derived.Test.YtdpafemcpbhlfaaDoorScWalk2
namespace Go.Proofs.YtdpafemcpbhlfaaDoor.Sc
set_option maxRecDepth 100000
open Go.RowKit

/-- A list of bytes, as a slice: its place, its room. -/
structure Part where
  sp : Option Addr
  b : Nat
  o : Nat
  cap : Nat
  l : List Int
def Part.val (p : Part) : Value := .slice p.sp p.l.length p.cap
structure PartOk (w : World) (p : Part) : Prop where
  sp : p.l ≠ [] → p.sp = some ⟨p.b, p.o, none⟩
  cells : ∀ j, j < p.l.length → w.cell? ⟨p.b, p.o + j, none⟩ = some (.int .u8 (p.l.getD j 0))
  digs : Digs 256 p.l
  small : p.l.length < 1000000
theorem PartOk.upd {w w' : World} {p : Part} (h : PartOk w p) (hu : Upd (fun _ => False) w w') : PartOk w' p := ⟨h.sp, fun j hj => hu.cell (h.cells j hj) (fun h => h), h.digs, h.small⟩
/-- All bytes of some parts. -/
def allOf (ps : List Part) : List Int := (ps.map Part.l).flatten
def zeroK : Array Value := numsA .u8 (List.replicate 32 0)
theorem zeroK_size : zeroK.size = 32 := by kernel_rfl
theorem zeroK_run (w : World) : (zeroValue 23).run Tryd.prog w = .ok (.agg zeroK) w := by kernel_rfl
theorem arrayAtK (g : Nat) (w : World) : (Instr.arrayAt 23 (.slice (some ⟨g, 0, none⟩) 32 32)).run Tryd.prog w = .ok (.pointer (some ⟨g, 0, none⟩)) w := by
  simp [Instr.arrayAt, run_underlying Tryd.underlying23, go_sem]
structure RedRel (w wr : World) (v : Int) : Prop where
  upd : Upd (fun _ => False) w wr
  res : Blk wr w.heap.size 23 zeroK
  n : Blk wr (w.heap.size + 1) 67 (numsA .u32 (digits 4294967296 8 v))
theorem RedRel.push {w wr wz : World} {v x : Int} (h : RedRel w wr v) (hw : WRel wr wz (w.heap.size + 1) 67 (digits 4294967296 8 x)) : RedRel w wz x :=
  ⟨h.upd.step hw.upd (fun i hi h => by omega), hw.upd.blk h.res (show ¬ w.heap.size = w.heap.size + 1 by omega), hw.d⟩
theorem dig8 (v : Int) (h0 : 0 ≤ v) (h1 : v < oo) : dig 4294967296 (digits 4294967296 8 v) = v := by
  rw [dig_digits (by omega), bw8]
  unfold oo at h1
  omega
theorem mod_bd (D : Int) : 0 ≤ D % oo ∧ D % oo < oo := ⟨Int.emod_nonneg D (by decide), Int.emod_lt_of_pos D oo_pos⟩
theorem push_mod (D x : Int) : (256 * (D % oo) + x) % oo = (x + 256 * D) % oo := by
  have e := Int.mul_ediv_add_emod D oo
  have : x + 256 * D = (256 * (D % oo) + x) + oo * (256 * (D / oo)) := by
    have : oo * (256 * (D / oo)) = 256 * (oo * (D / oo)) := Int.mul_left_comm _ _ _
    omega
  rw [this, Int.add_mul_emod_self_left]
theorem drop_cons (l : List Int) (j : Nat) (h : j < l.length) : l.drop j = l.getD j 0 :: l.drop (j + 1) := by
  rw [List.drop_eq_getElem_cons h, List.getD_eq_getElem?_getD, List.getElem?_eq_getElem h]
  rfl
theorem allOf_drop (ps : List Part) (i : Nat) (h : i < ps.length) : allOf (ps.drop i) = ps[i].l ++ allOf (ps.drop (i + 1)) := by
  unfold allOf
  rw [List.drop_eq_getElem_cons h]
  rfl
set_option maxHeartbeats 2000000 in
theorem reduce_any (ps : List Part) (pb po pc : Nat) (w : World) (hT : Tab w) (hlen : ps.length < 1000000) (hps : ∀ (i : Nat) (h : i < ps.length), w.cell? ⟨pb, po + i, none⟩ = some ps[i].val ∧ PartOk w ps[i]) :
    Calls Tryd.prog 75 #[.slice (some ⟨pb, po, none⟩) ps.length pc] w fun e w' => e = .returned (.agg (numsA .u8 (digits 256 32 (dig 256 (allOf ps) % oo)))) ∧ Upd (fun _ => False) w w' := by
  have hz := zeroK_run
  have HT := Lib.hid hT
  have Hps := Lib.hid hps
  clear hT hps
  go_enter Tryd.func75, Tryd.ntmps75
  go_wp2_with (refine wpList_makeBlk rfl _ _ 95 rfl 67 (.int .u32 0) 4 Tryd.underlying95 info32z rfl _ _ _ _ 8 rfl rfl (by omega) (by omega) (by omega) (by omega) ?_; intro w1 hb1 hu1 hz1; have Hb1 := Lib.hid hb1; have Hu1 := Lib.hid hu1; clear hb1 hu1 hz1)
  have HR : Hid (RedRel w w1 (dig 256 (allOf (ps.drop ps.length)) % oo)) := by
    refine ⟨((Upd.refl (fun _ => False) w).alloc _).trans Hu1.out, Hu1.out.blk (Blk.at1 w _ _) (fun h => h), ?_⟩
    have := Hb1.out
    rw [← numsA_replicate] at this
    rw [List.drop_length, show dig 256 (allOf []) % oo = 0 by decide, show digits 4294967296 8 0 = List.replicate 8 0 by decide]
    simpa using this
  clear Hb1 Hu1
  go_loopw [4] (fun i wr => ∃ k : Nat, k ≤ ps.length ∧ i = .int .i64 ((k : Int) - 1) ∧ RedRel w wr (dig 256 (allOf (ps.drop k)) % oo)) (fun i _ => (intOf i + 1).toNat)
  case atStart => exact ⟨ps.length, by omega, by simp, HR.out⟩
  case round =>
    clear HR
    obtain ⟨k, hk, rfl, hrel⟩ := hrel
    by_cases hlt : 0 < k
    · obtain ⟨i, rfl⟩ : ∃ i, k = i + 1 := ⟨k - 1, by omega⟩
      have e1 : ((i + 1 : Nat) : Int) - 1 = (i : Int) := by omega
      rw [e1]
      obtain ⟨hc, hok⟩ := Hps.out i (by omega)
      have Hc := Lib.hid hc
      have Hok := Lib.hid hok
      have Hall := Lib.hid (allOf_drop ps i (by omega))
      have hsm := hok.small
      clear e1 hlt hc hok
      have hcr := hrel.upd.cell Hc.out (fun h => h)
      have Hrel := Lib.hid hrel
      clear hrel
      generalize ps[i] = p at *
      unfold Part.val at hcr
      go_wp2
      go_loopw [5] (fun j wr => ∃ m : Nat, m ≤ p.l.length ∧ j = .int .i64 ((m : Int) - 1) ∧ RedRel w wr (dig 256 (p.l.drop m ++ allOf (ps.drop (i + 1))) % oo)) (fun j _ => (intOf j + 1).toNat)
      case atStart => exact ⟨p.l.length, by omega, by simp, by rw [List.drop_length, List.nil_append]; exact Hrel.out⟩
      case round =>
        clear Hrel hcr
        obtain ⟨m, hm, rfl, hrel⟩ := hrel
        by_cases hlt : 0 < m
        · obtain ⟨j, rfl⟩ : ∃ j, m = j + 1 := ⟨m - 1, by omega⟩
          have e1 : ((j + 1 : Nat) : Int) - 1 = (j : Int) := by omega
          rw [e1]
          clear e1 hlt
          have hcr := hrel.upd.cell Hc.out (fun h => h)
          have hne : p.l ≠ [] := fun h => by rw [h] at hm; simp at hm
          unfold Part.val at hcr
          rw [Hok.out.sp hne] at hcr
          have hcb := hrel.upd.cell (Hok.out.cells j (by omega)) (fun h => h)
          have hb := Hok.out.digs.get (B := 256) (by omega) j
          have Hdr := Lib.hid (drop_cons p.l j (by omega))
          have Hrel := Lib.hid hrel
          clear hrel
          generalize p.l.getD j 0 = x at *
          go_wp2_with fail
          refine (push_any (w.heap.size + 1) 8 67 _ x _ (HT.out.upd Hrel.out.upd (fun h => h)) (Nat.ne_of_gt (Nat.lt_of_lt_of_le (block_lt_of_cell (HT.out 0 (by omega))) (Nat.le_succ _))) Hrel.out.n (digits_length _ _ _) (digits_digs (by omega) _ _) (by rw [dig8 _ (mod_bd _).1 (mod_bd _).2]; exact (mod_bd _).2) hb).mono ?_
          rintro e w2 ⟨rfl, hw⟩
          rw [dig8 _ (mod_bd _).1 (mod_bd _).2, push_mod] at hw
          have Hw := Lib.hid (Hrel.out.push hw)
          clear hw hcr hcb
          go_wp2
          refine ⟨⟨j, by omega, rfl, ?_⟩, by simp [intOf]⟩
          rw [Hdr.out, List.cons_append]
          exact Hw.out
        · obtain rfl : m = 0 := by omega
          have hzz : decide ((0 : Int) ≤ ((0 : Nat) : Int) - 1) = false := by decide
          rw [List.drop_zero, ← Hall.out] at hrel
          have Hrel := Lib.hid hrel
          clear hrel
          go_wp2
          exact ⟨⟨i, by omega, rfl, Hrel.out⟩, by simp [intOf]⟩
    · obtain rfl : k = 0 := by omega
      have hzz : decide ((0 : Int) ≤ ((0 : Nat) : Int) - 1) = false := by decide
      rw [List.drop_zero] at hrel
      have Hrel := Lib.hid hrel
      clear hrel
      have hb := mod_bd (dig 256 (allOf ps))
      have Hd8 := Lib.hid (dig8 _ hb.1 hb.2)
      generalize hv : dig 256 (allOf ps) % oo = v at *
      have Hv := Lib.hid hv
      clear hv
      have hat := arrayAtK
      go_wp2_with fail
      refine (bytes_any (w.heap.size + 1) 8 8 67 _ _ Hrel.out.n (digits_length _ _ _) (digits_digs (by omega) _ _) (by omega)).mono ?_
      rintro e w2 ⟨t', rfl, hB, hu⟩
      rw [Hd8.out] at hB
      have HB := Lib.hid hB
      have Hu := Lib.hid (Hrel.out.upd.trans hu)
      have Hres := Lib.hid (hu.blk Hrel.out.res (fun h => h))
      have HS : Hid ((numsA .u8 (digits 256 32 v)).size = 32) := by show _ = _; rw [numsA_size, digits_length]
      clear hB hu
      go_wp2_with (first
        | (refine wpList_loadBlk rfl 23 _ rfl _ 0 32 rfl _ (numsA .u8 (digits 256 32 v)) _ HB.out Tryd.underlying23 rfl sizeKey (by rw [HS.out]; omega) ?_; rw [extract_all _ _ HS.out])
        | (refine wpList_storeBlk2 rfl 23 _ _ rfl w.heap.size 0 32 rfl (numsA .u8 (digits 256 32 v)) rfl 23 _ Hres.out sizeKey HS.out (by rw [zeroK_size]; omega) (numsA_one _ _) ?_; intro wz hbz huz hzz; rw [splice_all _ _ 32 zeroK_size HS.out] at hbz; have Hbz := Lib.hid hbz; have Huz := Lib.hid huz; clear hbz huz hzz))
      exact bodyPost_ret (v := .agg (numsA .u8 (digits 256 32 v))) (results_cell_row (fn := Tryd.f75) (p := 2) (ty := 23) rfl _ _ w.heap.size 23 _ (0, 0) _ rfl Hbz.out Tryd.underlying23 rfl (by rw [HS.out]; exact sizeKey)) rfl ⟨by rw [Hv.out], Hu.out.step Huz.out (fun i hi h => by omega)⟩
end Go.Proofs.YtdpafemcpbhlfaaDoor.Sc
