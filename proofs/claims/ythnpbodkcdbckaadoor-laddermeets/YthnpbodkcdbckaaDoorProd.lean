/-
  The walk of Product; lists of Elems made for a call.
-/
import Derived.Test.YthnpbodkcdbckaaDoorSum
namespace Go.Proofs.YthnpbodkcdbckaaDoor
set_option maxRecDepth 100000
open Go.RowKit

theorem fits_one : Fits 1 0 0 0 0 1 := ⟨by omega, by omega, by omega, by omega, by omega, by omega, by omega, by omega, by omega, by omega, ⟨0, by decide⟩⟩
/-- What holds at the head of Product's loop. -/
def ProdRel (w wr : World) (g : Nat) (ns : List Int) (k : Nat) : Prop :=
  ∃ s0 s1 s2 s3 s4 : Int, Fits s0 s1 s2 s3 s4 (prodTo ns k) ∧ Upd (fun _ => False) w wr ∧ Blk wr w.heap.size 39 #[.int .u64 0, .int .u64 0, .int .u64 0, .int .u64 0, .int .u64 0] ∧ Blk wr g 39 #[.int .u64 s0, .int .u64 s1, .int .u64 s2, .int .u64 s3, .int .u64 s4]

set_option maxHeartbeats 2000000 in
theorem product_any (l : List El) (ns : List Int) (v : Value) (w : World) (h : ElsAt w v l ns) :
    Calls Tryd.prog 101 #[v] w (RetE (prodTo ns ns.length) w) := by
  have H := Lib.hid h
  obtain ⟨hlen, hfits, sp, cap, rfl, hc1, hc2, hx⟩ := h
  rw [hlen]
  have Hx := Lib.hid hx
  have Hf := Lib.hid hfits
  clear hlen hfits hx
  generalize hn : l.length = n at *
  have Hn := Lib.hid hn
  clear hn
  go_enter Tryd.func101, Tryd.ntmps101
  go_wp2_with fail
  refine (small_any 1 _ (by omega) (by omega)).mono ?_
  rintro e w0 ⟨o0, o1, o2, o3, o4, hFo, rfl, hu0⟩
  have Hu0 := Lib.hid (((Upd.refl (fun _ => False) w).alloc _).trans hu0)
  have Hb0 := Lib.hid (hu0.blk (Blk.at1 w _ _) (fun h => h))
  have hz0 : w.heap.size + 1 ≤ w0.heap.size := by simpa using hu0.size
  have HFo := Lib.hid hFo
  clear hu0 hFo
  go_wp2
  go_loopw [9] (fun i wr => ∃ k : Nat, k ≤ n ∧ i = .int .i64 k ∧ ProdRel w wr w0.heap.size ns k) (fun i _ => n - (intOf i).toNat)
  case atStart =>
    exact ⟨0, by omega, rfl, _, _, _, _, _, HFo.out, Hu0.out.alloc _, Hb0.out.alloc _, Blk.at1 w0 _ _⟩
  case round =>
    clear HFo Hb0 Hu0
    obtain ⟨k, hk, rfl, s0, s1, s2, s3, s4, hF, hu, hb0, hb1⟩ := hrel
    have q0 : wr.cell? ⟨w0.heap.size, 0, none⟩ = some (.int .u64 s0) := hb1.cell 0
    have q1 : wr.cell? ⟨w0.heap.size, 1, none⟩ = some (.int .u64 s1) := hb1.cell 1
    have q2 : wr.cell? ⟨w0.heap.size, 2, none⟩ = some (.int .u64 s2) := hb1.cell 2
    have q3 : wr.cell? ⟨w0.heap.size, 3, none⟩ = some (.int .u64 s3) := hb1.cell 3
    have q4 : wr.cell? ⟨w0.heap.size, 4, none⟩ = some (.int .u64 s4) := hb1.cell 4
    have hlt1 := hb1.lt
    by_cases hlt : k < n
    · obtain ⟨b, rfl, hcells⟩ := Hx.out (by omega)
      obtain ⟨x, hx⟩ : ∃ x, l[k]? = some x := ⟨_, List.getElem?_eq_getElem (by rw [Hn.out]; exact hlt)⟩
      obtain ⟨g0, g1, g2, g3, g4⟩ := hcells k x hx
      have hxF : Fits x.p0 x.p1 x.p2 x.p3 x.p4 (ns.getD k 0) := Hf.out k x hx
      have g0' := hu.cell g0 (fun h => h)
      have g1' := hu.cell g1 (fun h => h)
      have g2' := hu.cell g2 (fun h => h)
      have g3' := hu.cell g3 (fun h => h)
      have g4' := hu.cell g4 (fun h => h)
      clear g0 g1 g2 g3 g4 hcells
      obtain ⟨y0, y1, y2, y3, y4⟩ := x
      have HxF := Lib.hid hxF
      have HF := Lib.hid hF
      have Hu := Lib.hid hu
      have Hb0 := Lib.hid hb0
      have Hb1 := Lib.hid hb1
      clear hx hu hb0 hb1 hF hxF
      go_wp2_with fail
      refine (mul_any s0 s1 s2 s3 s4 y0 y1 y2 y3 y4 _ _ _ HF.out HxF.out).mono ?_
      rintro e w1 ⟨z0, z1, z2, z3, z4, hF, rfl, hu⟩
      have Hb0' := Lib.hid (hu.blk (Hb0.out.alloc _) (fun h => h))
      have Hb1' := Lib.hid (hu.blk (Hb1.out.alloc _) (fun h => h))
      have Hu' := Lib.hid ((Hu.out.alloc _).trans hu)
      have HF' := Lib.hid hF
      have Hone := Lib.hid (one5 z0 z1 z2 z3 z4)
      clear hF hu Hu Hb0 Hb1 HF HxF
      go_wp2_with (refine wpList_storeBlk2 rfl 39 _ _ rfl w0.heap.size 0 5 rfl #[.int .u64 z0, .int .u64 z1, .int .u64 z2, .int .u64 z3, .int .u64 z4] rfl 39 _ Hb1'.out info28 rfl (by simp) Hone.out ?_; intro wz hbz huz hzz; rw [splice_all _ _ 5 rfl rfl] at hbz; have Hbz := Lib.hid hbz; have Huz := Lib.hid huz; clear hbz huz hzz)
      go_roundw
      case rel =>
        exact ⟨k + 1, by omega, by go_num, z0, z1, z2, z3, z4, HF'.out, Hu'.out.step Huz.out (fun i hi h => by omega), Huz.out.blk Hb0'.out (by omega), Hbz.out⟩
      case measure => simp [intOf]; omega
    · obtain rfl : k = n := by omega
      have Hu := Lib.hid hu
      have Hb0 := Lib.hid hb0
      have HF := Lib.hid hF
      have Hone := Lib.hid (one5 s0 s1 s2 s3 s4)
      have hd : decide ((k : Int) < (k : Int)) = false := by simp
      clear hu hb0 hb1 hF
      go_wp2_with (refine wpList_storeBlk2 rfl 39 _ _ rfl w.heap.size 0 5 rfl #[.int .u64 s0, .int .u64 s1, .int .u64 s2, .int .u64 s3, .int .u64 s4] rfl 39 _ Hb0.out info28 rfl (by simp) Hone.out ?_; intro wz hbz huz hzz; rw [splice_all _ _ 5 rfl rfl] at hbz; have Hbz := Lib.hid hbz; have Huz := Lib.hid huz; clear hbz huz hzz)
      exact bodyPost_ret (v := .agg #[.int .u64 s0, .int .u64 s1, .int .u64 s2, .int .u64 s3, .int .u64 s4]) (results_cell_row (fn := Tryd.f101) (p := 2) (ty := 39) rfl _ _ w.heap.size 39 _ (0, 0) _ rfl Hbz.out Tryd.underlying39 rfl info28) rfl ⟨_, _, _, _, _, HF.out, rfl, Hu.out.step Huz.out (fun i hi h => by omega)⟩

theorem ElsAt.mk1 (w : World) (x0 x1 x2 x3 x4 mx : Int) (hx : Fits x0 x1 x2 x3 x4 mx) : ElsAt (w.alloc (.cells #[.int .u64 x0, .int .u64 x1, .int .u64 x2, .int .u64 x3, .int .u64 x4] 39)) (.slice (some ⟨w.heap.size, 0, none⟩) 1 1) [⟨x0, x1, x2, x3, x4⟩] [mx] := by
  have hb := Blk.at1 w #[.int .u64 x0, .int .u64 x1, .int .u64 x2, .int .u64 x3, .int .u64 x4] 39
  refine ⟨rfl, fun i x hq => ?_, _, _, rfl, Nat.le_refl _, by simp, fun _ => ⟨_, rfl, fun i x hq => ?_⟩⟩
  · match i, hq with
    | 0, hq => cases hq; exact hx
    | i + 1, hq => cases hq
  · match i, hq with
    | 0, hq => cases hq; exact ⟨hb.cell 0, hb.cell 1, hb.cell 2, hb.cell 3, hb.cell 4⟩
    | i + 1, hq => cases hq

theorem ElsAt.mk2 (w : World) (x0 x1 x2 x3 x4 y0 y1 y2 y3 y4 mx my : Int) (hx : Fits x0 x1 x2 x3 x4 mx) (hy : Fits y0 y1 y2 y3 y4 my) : ElsAt (w.alloc (.cells #[.int .u64 x0, .int .u64 x1, .int .u64 x2, .int .u64 x3, .int .u64 x4, .int .u64 y0, .int .u64 y1, .int .u64 y2, .int .u64 y3, .int .u64 y4] 39)) (.slice (some ⟨w.heap.size, 0, none⟩) 2 2) [⟨x0, x1, x2, x3, x4⟩, ⟨y0, y1, y2, y3, y4⟩] [mx, my] := by
  have hb := Blk.at1 w #[.int .u64 x0, .int .u64 x1, .int .u64 x2, .int .u64 x3, .int .u64 x4, .int .u64 y0, .int .u64 y1, .int .u64 y2, .int .u64 y3, .int .u64 y4] 39
  refine ⟨rfl, fun i x hq => ?_, _, _, rfl, Nat.le_refl _, by simp, fun _ => ⟨_, rfl, fun i x hq => ?_⟩⟩
  · match i, hq with
    | 0, hq => cases hq; exact hx
    | 1, hq => cases hq; exact hy
    | i + 2, hq => cases hq
  · match i, hq with
    | 0, hq => cases hq; exact ⟨hb.cell 0, hb.cell 1, hb.cell 2, hb.cell 3, hb.cell 4⟩
    | 1, hq => cases hq; exact ⟨hb.cell 5, hb.cell 6, hb.cell 7, hb.cell 8, hb.cell 9⟩
    | i + 2, hq => cases hq

theorem ElsAt.mk3 (w : World) (x0 x1 x2 x3 x4 y0 y1 y2 y3 y4 z0 z1 z2 z3 z4 mx my mz : Int) (hx : Fits x0 x1 x2 x3 x4 mx) (hy : Fits y0 y1 y2 y3 y4 my) (hz : Fits z0 z1 z2 z3 z4 mz) : ElsAt (w.alloc (.cells #[.int .u64 x0, .int .u64 x1, .int .u64 x2, .int .u64 x3, .int .u64 x4, .int .u64 y0, .int .u64 y1, .int .u64 y2, .int .u64 y3, .int .u64 y4, .int .u64 z0, .int .u64 z1, .int .u64 z2, .int .u64 z3, .int .u64 z4] 39)) (.slice (some ⟨w.heap.size, 0, none⟩) 3 3) [⟨x0, x1, x2, x3, x4⟩, ⟨y0, y1, y2, y3, y4⟩, ⟨z0, z1, z2, z3, z4⟩] [mx, my, mz] := by
  have hb := Blk.at1 w #[.int .u64 x0, .int .u64 x1, .int .u64 x2, .int .u64 x3, .int .u64 x4, .int .u64 y0, .int .u64 y1, .int .u64 y2, .int .u64 y3, .int .u64 y4, .int .u64 z0, .int .u64 z1, .int .u64 z2, .int .u64 z3, .int .u64 z4] 39
  refine ⟨rfl, fun i x hq => ?_, _, _, rfl, Nat.le_refl _, by simp, fun _ => ⟨_, rfl, fun i x hq => ?_⟩⟩
  · match i, hq with
    | 0, hq => cases hq; exact hx
    | 1, hq => cases hq; exact hy
    | 2, hq => cases hq; exact hz
    | i + 3, hq => cases hq
  · match i, hq with
    | 0, hq => cases hq; exact ⟨hb.cell 0, hb.cell 1, hb.cell 2, hb.cell 3, hb.cell 4⟩
    | 1, hq => cases hq; exact ⟨hb.cell 5, hb.cell 6, hb.cell 7, hb.cell 8, hb.cell 9⟩
    | 2, hq => cases hq; exact ⟨hb.cell 10, hb.cell 11, hb.cell 12, hb.cell 13, hb.cell 14⟩
    | i + 3, hq => cases hq
theorem Blk.drew {w : World} {b : Nat} {t : TypeId} {arr : Array Value} (h : Blk w b t arr) : Blk w.drew b t arr := h
theorem ElsAt.of1 {w : World} {b : Nat} {x0 x1 x2 x3 x4 mx : Int} (hb : Blk w b 39 #[.int .u64 x0, .int .u64 x1, .int .u64 x2, .int .u64 x3, .int .u64 x4]) (hx : Fits x0 x1 x2 x3 x4 mx) : ElsAt w (.slice (some ⟨b, 0, none⟩) 1 1) [⟨x0, x1, x2, x3, x4⟩] [mx] := by
  refine ⟨rfl, fun i x hq => ?_, _, _, rfl, Nat.le_refl _, by simp, fun _ => ⟨_, rfl, fun i x hq => ?_⟩⟩
  · match i, hq with
    | 0, hq => cases hq; exact hx
    | i + 1, hq => cases hq
  · match i, hq with
    | 0, hq => cases hq; exact ⟨hb.cell 0, hb.cell 1, hb.cell 2, hb.cell 3, hb.cell 4⟩
    | i + 1, hq => cases hq
theorem ElsAt.of2 {w : World} {b : Nat} {x0 x1 x2 x3 x4 y0 y1 y2 y3 y4 mx my : Int} (hb : Blk w b 39 #[.int .u64 x0, .int .u64 x1, .int .u64 x2, .int .u64 x3, .int .u64 x4, .int .u64 y0, .int .u64 y1, .int .u64 y2, .int .u64 y3, .int .u64 y4]) (hx : Fits x0 x1 x2 x3 x4 mx) (hy : Fits y0 y1 y2 y3 y4 my) : ElsAt w (.slice (some ⟨b, 0, none⟩) 2 2) [⟨x0, x1, x2, x3, x4⟩, ⟨y0, y1, y2, y3, y4⟩] [mx, my] := by
  refine ⟨rfl, fun i x hq => ?_, _, _, rfl, Nat.le_refl _, by simp, fun _ => ⟨_, rfl, fun i x hq => ?_⟩⟩
  · match i, hq with
    | 0, hq => cases hq; exact hx
    | 1, hq => cases hq; exact hy
    | i + 2, hq => cases hq
  · match i, hq with
    | 0, hq => cases hq; exact ⟨hb.cell 0, hb.cell 1, hb.cell 2, hb.cell 3, hb.cell 4⟩
    | 1, hq => cases hq; exact ⟨hb.cell 5, hb.cell 6, hb.cell 7, hb.cell 8, hb.cell 9⟩
    | i + 2, hq => cases hq
theorem ElsAt.of3 {w : World} {b : Nat} {x0 x1 x2 x3 x4 y0 y1 y2 y3 y4 z0 z1 z2 z3 z4 mx my mz : Int} (hb : Blk w b 39 #[.int .u64 x0, .int .u64 x1, .int .u64 x2, .int .u64 x3, .int .u64 x4, .int .u64 y0, .int .u64 y1, .int .u64 y2, .int .u64 y3, .int .u64 y4, .int .u64 z0, .int .u64 z1, .int .u64 z2, .int .u64 z3, .int .u64 z4]) (hx : Fits x0 x1 x2 x3 x4 mx) (hy : Fits y0 y1 y2 y3 y4 my) (hz : Fits z0 z1 z2 z3 z4 mz) : ElsAt w (.slice (some ⟨b, 0, none⟩) 3 3) [⟨x0, x1, x2, x3, x4⟩, ⟨y0, y1, y2, y3, y4⟩, ⟨z0, z1, z2, z3, z4⟩] [mx, my, mz] := by
  refine ⟨rfl, fun i x hq => ?_, _, _, rfl, Nat.le_refl _, by simp, fun _ => ⟨_, rfl, fun i x hq => ?_⟩⟩
  · match i, hq with
    | 0, hq => cases hq; exact hx
    | 1, hq => cases hq; exact hy
    | 2, hq => cases hq; exact hz
    | i + 3, hq => cases hq
  · match i, hq with
    | 0, hq => cases hq; exact ⟨hb.cell 0, hb.cell 1, hb.cell 2, hb.cell 3, hb.cell 4⟩
    | 1, hq => cases hq; exact ⟨hb.cell 5, hb.cell 6, hb.cell 7, hb.cell 8, hb.cell 9⟩
    | 2, hq => cases hq; exact ⟨hb.cell 10, hb.cell 11, hb.cell 12, hb.cell 13, hb.cell 14⟩
    | i + 3, hq => cases hq
theorem ElsAt.nil (w : World) : ElsAt w (.slice none 0 0) [] [] := ⟨rfl, (fun i x hx => by cases hx), none, 0, rfl, Nat.le_refl _, by omega, (fun h => absurd h (by simp))⟩
end Go.Proofs.YthnpbodkcdbckaaDoor
