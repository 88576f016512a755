/-
  Walks of Add and Product.
-/
import Derived.Test.YthnpbodkcdbckaaDoorAcc
import Derived.Test.YthnpbodkcdbckaaDoorMul
namespace Go.Proofs.YthnpbodkcdbckaaDoor
set_option maxRecDepth 100000
open Go.RowKit

/-- Five parts. -/
structure El where
  (p0 p1 p2 p3 p4 : Int)
def El.Fits (x : El) (n : Int) : Prop := _root_.Go.Proofs.YthnpbodkcdbckaaDoor.Fits x.p0 x.p1 x.p2 x.p3 x.p4 n
/-- Elems one behind the other in memory, alike the numbers ns. -/
structure ElsAt (w : World) (v : Value) (l : List El) (ns : List Int) : Prop where
  len : ns.length = l.length
  fits : ∀ (i : Nat) (x : El), l[i]? = some x → x.Fits (ns.getD i 0)
  slice : ∃ sp cap, v = .slice sp l.length cap ∧ l.length ≤ cap ∧ cap ≤ 1000000 ∧ (0 < l.length → ∃ b, sp = some ⟨b, 0, none⟩ ∧ ∀ (i : Nat) (x : El), l[i]? = some x →
    w.cell? ⟨b, i * 5, none⟩ = some (.int .u64 x.p0) ∧ w.cell? ⟨b, i * 5 + 1, none⟩ = some (.int .u64 x.p1) ∧ w.cell? ⟨b, i * 5 + 2, none⟩ = some (.int .u64 x.p2) ∧ w.cell? ⟨b, i * 5 + 3, none⟩ = some (.int .u64 x.p3) ∧ w.cell? ⟨b, i * 5 + 4, none⟩ = some (.int .u64 x.p4))
/-- The sum of the first k. -/
def sumTo (ns : List Int) : Nat → Int
  | 0 => 0
  | k + 1 => sumTo ns k + ns.getD k 0
def prodTo (ns : List Int) : Nat → Int
  | 0 => 1
  | k + 1 => prodTo ns k * ns.getD k 0
theorem add_math {x0 x1 x2 x3 x4 y0 y1 y2 y3 y4 m n : Int} (hx : Fits x0 x1 x2 x3 x4 m) (hy : Fits y0 y1 y2 y3 y4 n) : Cong (val5 (x0 + y0) (x1 + y1) (x2 + y2) (x3 + y3) (x4 + y4)) (m + n) := by
  refine Cong.trans ⟨0, ?_⟩ (Cong.add hx.cong hy.cong)
  unfold val5 pp
  omega
theorem fits_zero' : Fits 0 0 0 0 0 0 := ⟨by omega, by omega, by omega, by omega, by omega, by omega, by omega, by omega, by omega, by omega, ⟨0, by decide⟩⟩
/-- What holds at the head of Add's loop. -/
def AddRel (w wr : World) (ns : List Int) (k : Nat) : Prop :=
  ∃ s0 s1 s2 s3 s4 : Int, Fits s0 s1 s2 s3 s4 (sumTo ns k) ∧ Upd (fun _ => False) w wr ∧ Blk wr w.heap.size 39 #[.int .u64 0, .int .u64 0, .int .u64 0, .int .u64 0, .int .u64 0] ∧ Blk wr (w.heap.size + 1) 39 #[.int .u64 s0, .int .u64 s1, .int .u64 s2, .int .u64 s3, .int .u64 s4]

set_option maxHeartbeats 2000000 in
theorem add_any (l : List El) (ns : List Int) (v : Value) (w : World) (h : ElsAt w v l ns) :
    Calls Tryd.prog 45 #[v] w (RetE (sumTo ns ns.length) w) := by
  have H := Lib.hid h
  obtain ⟨hlen, hfits, sp, cap, rfl, hc1, hc2, hx⟩ := h
  rw [hlen]
  have Hx := Lib.hid hx
  have Hf := Lib.hid hfits
  clear hlen hfits hx
  generalize hn : l.length = n at *
  have Hn := Lib.hid hn
  clear hn
  go_enter Tryd.func45, Tryd.ntmps45
  go_wp2
  go_loopw [11] (fun i wr => ∃ k : Nat, k ≤ n ∧ i = .int .i64 k ∧ AddRel w wr ns k) (fun i _ => n - (intOf i).toNat)
  case atStart => exact ⟨0, by omega, rfl, 0, 0, 0, 0, 0, fits_zero', ((Upd.refl _ w).alloc _).alloc _, (Blk.at1 w _ _).alloc _, Blk.at2 w _ _ _⟩
  case round =>
    obtain ⟨k, hk, rfl, s0, s1, s2, s3, s4, hF, hu, hb0, hb1⟩ := hrel
    by_cases hlt : k < n
    · obtain ⟨b, rfl, hcells⟩ := Hx.out (by omega)
      obtain ⟨x, hx⟩ : ∃ x, l[k]? = some x := ⟨_, List.getElem?_eq_getElem (by rw [Hn.out]; exact hlt)⟩
      obtain ⟨g0, g1, g2, g3, g4⟩ := hcells k x hx
      have hxF : Fits x.p0 x.p1 x.p2 x.p3 x.p4 (ns.getD k 0) := Hf.out k x hx
      have g0' := hu.cell g0 (fun h => h)
      have g1' := hu.cell g1 (fun h => h)
      have g2' := hu.cell g2 (fun h => h)
      have g3' := hu.cell g3 (fun h => h)
      have g4' := hu.cell g4 (fun h => h)
      have q0 : wr.cell? ⟨w.heap.size + 1, 0, none⟩ = some (.int .u64 s0) := hb1.cell 0
      have q1 : wr.cell? ⟨w.heap.size + 1, 1, none⟩ = some (.int .u64 s1) := hb1.cell 1
      have q2 : wr.cell? ⟨w.heap.size + 1, 2, none⟩ = some (.int .u64 s2) := hb1.cell 2
      have q3 : wr.cell? ⟨w.heap.size + 1, 3, none⟩ = some (.int .u64 s3) := hb1.cell 3
      have q4 : wr.cell? ⟨w.heap.size + 1, 4, none⟩ = some (.int .u64 s4) := hb1.cell 4
      have hlt1 := hb1.lt
      clear g0 g1 g2 g3 g4 hcells
      obtain ⟨y0, y1, y2, y3, y4⟩ := x
      have HM := Lib.hid (add_math hF hxF)
      obtain ⟨i0, i1, i2, i3, i4⟩ := idx5a (.int .u64 y0) (.int .u64 y1) (.int .u64 y2) (.int .u64 y3) (.int .u64 y4)
      obtain ⟨a0, c0, a1, c1, a2, c2, a3, c3, a4, c4, -⟩ := hF
      obtain ⟨b0, d0, b1, d1, b2, d2, b3, d3, b4, d4, -⟩ := hxF
      have Hu := Lib.hid hu
      have Hb0 := Lib.hid hb0
      have Hb1 := Lib.hid hb1
      clear hx hu hb0 hb1
      go_wp2
      refine wp_loop_rounds 6 ?_
      iterate 5 (rw [rounds_succ]; go_wp2)
      rw [rounds_succ]
      go_wp2_with fail
      refine (carried_any _ _ _ _ _ _ (by omega) (by omega) (by omega) (by omega) (by omega) (by omega) (by omega) (by omega) (by omega) (by omega)).mono ?_
      rintro e w1 ⟨z0, z1, z2, z3, z4, hF, rfl, hu⟩
      have Hb0' := Lib.hid (hu.blk ((Hb0.out.alloc _).alloc _) (fun h => h))
      have Hb1' := Lib.hid (hu.blk ((Hb1.out.alloc _).alloc _) (fun h => h))
      have Hu' := Lib.hid (((Hu.out.alloc _).alloc _).trans hu)
      have HF := Lib.hid (hF.to HM.out)
      have Hone := Lib.hid (one5 z0 z1 z2 z3 z4)
      clear hF hu HM Hu Hb0 Hb1
      go_wp2_with (refine wpList_storeBlk2 rfl 39 _ _ rfl (w.heap.size + 1) 0 5 rfl #[.int .u64 z0, .int .u64 z1, .int .u64 z2, .int .u64 z3, .int .u64 z4] rfl 39 _ Hb1'.out info28 rfl (by simp) Hone.out ?_; intro wz hbz huz hzz; rw [splice_all _ _ 5 rfl rfl] at hbz; have Hbz := Lib.hid hbz; have Huz := Lib.hid huz; clear hbz huz hzz)
      go_roundw
      case rel =>
        exact ⟨k + 1, by omega, by go_num, z0, z1, z2, z3, z4, HF.out, Hu'.out.step Huz.out (fun i hi h => by omega), Huz.out.blk Hb0'.out (by simp), Hbz.out⟩
      case measure => simp [intOf]; omega
    · obtain rfl : k = n := by omega
      have q0 : wr.cell? ⟨w.heap.size + 1, 0, none⟩ = some (.int .u64 s0) := hb1.cell 0
      have q1 : wr.cell? ⟨w.heap.size + 1, 1, none⟩ = some (.int .u64 s1) := hb1.cell 1
      have q2 : wr.cell? ⟨w.heap.size + 1, 2, none⟩ = some (.int .u64 s2) := hb1.cell 2
      have q3 : wr.cell? ⟨w.heap.size + 1, 3, none⟩ = some (.int .u64 s3) := hb1.cell 3
      have q4 : wr.cell? ⟨w.heap.size + 1, 4, none⟩ = some (.int .u64 s4) := hb1.cell 4
      have Hu := Lib.hid hu
      have Hb0 := Lib.hid hb0
      have HF := Lib.hid hF
      have Hone := Lib.hid (one5 s0 s1 s2 s3 s4)
      have hd : decide ((k : Int) < (k : Int)) = false := by simp
      clear hu hb0 hb1 hF
      go_wp2_with (refine wpList_storeBlk2 rfl 39 _ _ rfl w.heap.size 0 5 rfl #[.int .u64 s0, .int .u64 s1, .int .u64 s2, .int .u64 s3, .int .u64 s4] rfl 39 _ Hb0.out info28 rfl (by simp) Hone.out ?_; intro wz hbz huz hzz; rw [splice_all _ _ 5 rfl rfl] at hbz; have Hbz := Lib.hid hbz; have Huz := Lib.hid huz; clear hbz huz hzz)
      exact bodyPost_ret (v := .agg #[.int .u64 s0, .int .u64 s1, .int .u64 s2, .int .u64 s3, .int .u64 s4]) (results_cell_row (fn := Tryd.f45) (p := 2) (ty := 39) rfl _ _ w.heap.size 39 _ (0, 0) _ rfl Hbz.out Tryd.underlying39 rfl info28) rfl ⟨_, _, _, _, _, HF.out, rfl, Hu.out.step Huz.out (fun i hi h => by omega)⟩
end Go.Proofs.YthnpbodkcdbckaaDoor
