/-
  Walks of Equal, IsZero, Odd, Small, Swap.
-/
import Derived.Test.YthnpbodkcdbckaaDoorKey
import Derived.Deep.RegionHeld3
namespace Go.Proofs.YthnpbodkcdbckaaDoor
set_option maxRecDepth 100000
open Go.RowKit

theorem Upd.cells10 {w w' : World} {a0 a1 a2 a3 a4 a5 a6 a7 a8 a9 : Addr} {v0 v1 v2 v3 v4 v5 v6 v7 v8 v9 : Value} (hu : Upd (fun _ => False) w w') (h : w.cell? a0 = some v0 ∧ w.cell? a1 = some v1 ∧ w.cell? a2 = some v2 ∧ w.cell? a3 = some v3 ∧ w.cell? a4 = some v4 ∧ w.cell? a5 = some v5 ∧ w.cell? a6 = some v6 ∧ w.cell? a7 = some v7 ∧ w.cell? a8 = some v8 ∧ w.cell? a9 = some v9) : w'.cell? a0 = some v0 ∧ w'.cell? a1 = some v1 ∧ w'.cell? a2 = some v2 ∧ w'.cell? a3 = some v3 ∧ w'.cell? a4 = some v4 ∧ w'.cell? a5 = some v5 ∧ w'.cell? a6 = some v6 ∧ w'.cell? a7 = some v7 ∧ w'.cell? a8 = some v8 ∧ w'.cell? a9 = some v9 := by
  obtain ⟨h0, h1, h2, h3, h4, h5, h6, h7, h8, h9⟩ := h
  exact ⟨hu.cell h0 (fun h => h), hu.cell h1 (fun h => h), hu.cell h2 (fun h => h), hu.cell h3 (fun h => h), hu.cell h4 (fun h => h), hu.cell h5 (fun h => h), hu.cell h6 (fun h => h), hu.cell h7 (fun h => h), hu.cell h8 (fun h => h), hu.cell h9 (fun h => h)⟩
theorem Exact.eq_iff {a0 a1 a2 a3 a4 b0 b1 b2 b3 b4 m n : Int} (h : Exact a0 a1 a2 a3 a4 m) (g : Exact b0 b1 b2 b3 b4 n) : eqB5 a0 a1 a2 a3 a4 b0 b1 b2 b3 b4 = decide (m = n) := by
  unfold eqB5
  obtain ⟨l0, u0, l1, u1, l2, u2, l3, u3, l4, u4, hv⟩ := h
  obtain ⟨k0, t0, k1, t1, k2, t2, k3, t3, k4, t4, gv⟩ := g
  rw [decide_eq_decide]
  unfold val5 at hv gv
  constructor
  · intro h
    simp only [List.cons.injEq, and_true] at h
    omega
  · intro h
    simp only [List.cons.injEq, and_true]
    omega
theorem guard5 : Tryd.prog.eqGuardType Tryd.prog.depth 37 = false := by kernel_rfl

set_option maxHeartbeats 1000000 in
theorem equal_any (x0 x1 x2 x3 x4 y0 y1 y2 y3 y4 m n : Int) (w : World) (hx : Fits x0 x1 x2 x3 x4 m) (hy : Fits y0 y1 y2 y3 y4 n) :
    Calls Tryd.prog 71 #[.agg #[.int .u64 x0, .int .u64 x1, .int .u64 x2, .int .u64 x3, .int .u64 x4], .agg #[.int .u64 y0, .int .u64 y1, .int .u64 y2, .int .u64 y3, .int .u64 y4]] w fun e w' => e = .returned (.bool (decide (m % pp = n % pp))) ∧ Upd (fun _ => False) w w' := by
  have Hx := Lib.hid hx
  have Hy := Lib.hid hy
  have e5 := eq5
  have hg := guard5
  clear hx hy
  go_enter Tryd.func71, Tryd.ntmps71
  go_wp2
  go_region_held3 (fun w' => w'.cell? ⟨w.heap.size, 0, none⟩ = some (.int .u64 x0) ∧ w'.cell? ⟨w.heap.size, 1, none⟩ = some (.int .u64 x1) ∧ w'.cell? ⟨w.heap.size, 2, none⟩ = some (.int .u64 x2) ∧ w'.cell? ⟨w.heap.size, 3, none⟩ = some (.int .u64 x3) ∧ w'.cell? ⟨w.heap.size, 4, none⟩ = some (.int .u64 x4) ∧ w'.cell? ⟨w.heap.size + 1, 0, none⟩ = some (.int .u64 y0) ∧ w'.cell? ⟨w.heap.size + 1, 1, none⟩ = some (.int .u64 y1) ∧ w'.cell? ⟨w.heap.size + 1, 2, none⟩ = some (.int .u64 y2) ∧ w'.cell? ⟨w.heap.size + 1, 3, none⟩ = some (.int .u64 y3) ∧ w'.cell? ⟨w.heap.size + 1, 4, none⟩ = some (.int .u64 y4)) (first | go_keep | exact Upd.cells10 hu1 ‹_› | exact Upd.cells10 hu2 ‹_›) (first
    | (go_at_call_of 83 x0; refine (least_any x0 x1 x2 x3 x4 m _ Hx.out).mono ?_; rintro e w1 ⟨a0, a1, a2, a3, a4, hE1, rfl, hu1⟩; have HE1 := Lib.hid hE1; clear hE1)
    | (go_at_call_of 83 y0; refine (least_any y0 y1 y2 y3 y4 n _ Hy.out).mono ?_; rintro e w2 ⟨b0, b1, b2, b3, b4, hE2, rfl, hu2⟩; have HE2 := Lib.hid hE2; clear hE2))
  all_goals
    go_wp2
    go_ret
    refine ⟨congrArg (fun b => Ending.returned (.bool b)) (HE1.out.eq_iff HE2.out), ?_⟩
    first
      | exact ((((Upd.refl _ w).alloc _).alloc _).drew.trans hu1).trans hu2
      | exact ((((Upd.refl _ w).alloc _).alloc _).drew.trans hu2).trans hu1

theorem Blk.at1 (w : World) (arr : Array Value) (t : TypeId) : Blk (w.alloc (.cells arr t)) w.heap.size t arr := Blk.new w arr t
theorem Blk.at2 (w : World) (a : Obj) (arr : Array Value) (t : TypeId) : Blk ((w.alloc a).alloc (.cells arr t)) (w.heap.size + 1) t arr := by
  have := Blk.new (w.alloc a) arr t
  simpa using this
theorem Blk.at3 (w : World) (a b : Obj) (arr : Array Value) (t : TypeId) : Blk (((w.alloc a).alloc b).alloc (.cells arr t)) (w.heap.size + 1 + 1) t arr := by
  have := Blk.new ((w.alloc a).alloc b) arr t
  simpa using this
theorem Blk.at4 (w : World) (a b c : Obj) (arr : Array Value) (t : TypeId) : Blk ((((w.alloc a).alloc b).alloc c).alloc (.cells arr t)) (w.heap.size + 1 + 1 + 1) t arr := by
  have := Blk.new (((w.alloc a).alloc b).alloc c) arr t
  simpa using this
theorem one5 (a0 a1 a2 a3 a4 : Int) : ∀ v ∈ (#[.int .u64 a0, .int .u64 a1, .int .u64 a2, .int .u64 a3, .int .u64 a4] : Array Value).toList, v.oneCell' = true := by
  intro v hv; simp at hv; rcases hv with rfl | rfl | rfl | rfl | rfl <;> rfl
theorem exact_zero : Exact 0 0 0 0 0 0 := ⟨by omega, by omega, by omega, by omega, by omega, by omega, by omega, by omega, by omega, by omega, by decide⟩
set_option maxHeartbeats 1000000 in
theorem isZero_any (x0 x1 x2 x3 x4 m : Int) (w : World) (hx : Fits x0 x1 x2 x3 x4 m) :
    Calls Tryd.prog 62 #[.agg #[.int .u64 x0, .int .u64 x1, .int .u64 x2, .int .u64 x3, .int .u64 x4]] w fun e w' => e = .returned (.bool (decide (m % pp = 0))) ∧ Upd (fun _ => False) w w' := by
  have Hx := Lib.hid hx
  have e5 := eq5
  have hg := guard5
  clear hx
  go_enter Tryd.func62, Tryd.ntmps62
  go_wp2_with fail
  refine (least_any x0 x1 x2 x3 x4 m _ Hx.out).mono ?_
  rintro e w1 ⟨a0, a1, a2, a3, a4, hE, rfl, hu⟩
  have HE := Lib.hid hE
  have Hu := Lib.hid hu
  clear hE hu
  go_wp2
  go_ret
  exact ⟨congrArg (fun b => Ending.returned (.bool b)) (HE.out.eq_iff exact_zero), ((Upd.refl _ w).alloc _).trans Hu.out⟩

theorem and_one (x : Int) (h0 : 0 ≤ x) (h1 : x < 18446744073709551616) : bits .and .u64 x 1 = x % 2 := by
  rw [u64_and x 1 h0 h1 (by omega) (by omega)]
  have e : x.toNat &&& (1 : Int).toNat = x.toNat % 2 := Nat.and_two_pow_sub_one_eq_mod x.toNat 1
  rw [e]
  omega
theorem Exact.odd {a0 a1 a2 a3 a4 n : Int} (h : Exact a0 a1 a2 a3 a4 n) : a0 % 2 = n % 2 := by
  obtain ⟨l0, u0, l1, u1, l2, u2, l3, u3, l4, u4, hv⟩ := h
  unfold val5 at hv
  omega
set_option maxHeartbeats 1000000 in
theorem odd_any (x0 x1 x2 x3 x4 m : Int) (w : World) (hx : Fits x0 x1 x2 x3 x4 m) :
    Calls Tryd.prog 69 #[.agg #[.int .u64 x0, .int .u64 x1, .int .u64 x2, .int .u64 x3, .int .u64 x4]] w fun e w' => e = .returned (.bool (decide (m % pp % 2 = 1))) ∧ Upd (fun _ => False) w w' := by
  have Hx := Lib.hid hx
  clear hx
  go_enter Tryd.func69, Tryd.ntmps69
  go_wp2_with fail
  refine (least_any x0 x1 x2 x3 x4 m _ Hx.out).mono ?_
  rintro e w1 ⟨a0, a1, a2, a3, a4, hE, rfl, hu⟩
  have HE := Lib.hid hE
  have Hu := Lib.hid hu
  have h1 := and_one a0 hE.l0 (by have := hE.u0; omega)
  obtain ⟨i0, -⟩ := idx5a (.int .u64 a0) (.int .u64 a1) (.int .u64 a2) (.int .u64 a3) (.int .u64 a4)
  have h2 := Lib.hid hE.odd
  clear hE hu
  go_wp2
  go_ret
  refine ⟨?_, ((Upd.refl _ w).alloc _).trans Hu.out⟩
  rw [← h2.out]
  rfl
set_option maxHeartbeats 1000000 in
theorem small_any (n : Int) (w : World) (h0 : 0 ≤ n) (h1 : n < 4294967296) : Calls Tryd.prog 43 #[.int .u32 n] w (RetE n w) := by
  have hf : Hid (Fits n 0 0 0 0 n) := ⟨by omega, by omega, by omega, by omega, by omega, by omega, by omega, by omega, by omega, by omega, ⟨0, by unfold val5; omega⟩⟩
  go_enter Tryd.func43, Tryd.ntmps43
  go_wp2
  exact bodyPost_ret (v := .agg #[.int .u64 n, .int .u64 0, .int .u64 0, .int .u64 0, .int .u64 0]) (by simp [results, Tryd.results43, go_sem]) rfl ⟨_, _, _, _, _, hf.out, rfl, (Upd.refl _ w).alloc _⟩
end Go.Proofs.YthnpbodkcdbckaaDoor
