/-
  Walks of Equal, IsZero, Odd, Small, Swap.
-/
/-
  The mathematics of a product. No program.
-/
/-
  The walk of Mul.
-/
import Derived.Test.YtdpafemcpbhlfaaDoorKey
import Derived.Deep.RegionHeld3
import Derived.Test.YtdpafemcpbhlfaaDoorLeaf
namespace Go.Proofs.YtdpafemcpbhlfaaDoor
set_option maxRecDepth 100000
open Go.RowKit

theorem Upd.cells10 {w w' : World} {a0 a1 a2 a3 a4 a5 a6 a7 a8 a9 : Addr} {v0 v1 v2 v3 v4 v5 v6 v7 v8 v9 : Value} (hu : Upd (fun _ => False) w w') (h : w.cell? a0 = some v0 ∧ w.cell? a1 = some v1 ∧ w.cell? a2 = some v2 ∧ w.cell? a3 = some v3 ∧ w.cell? a4 = some v4 ∧ w.cell? a5 = some v5 ∧ w.cell? a6 = some v6 ∧ w.cell? a7 = some v7 ∧ w.cell? a8 = some v8 ∧ w.cell? a9 = some v9) : w'.cell? a0 = some v0 ∧ w'.cell? a1 = some v1 ∧ w'.cell? a2 = some v2 ∧ w'.cell? a3 = some v3 ∧ w'.cell? a4 = some v4 ∧ w'.cell? a5 = some v5 ∧ w'.cell? a6 = some v6 ∧ w'.cell? a7 = some v7 ∧ w'.cell? a8 = some v8 ∧ w'.cell? a9 = some v9 := by
  obtain ⟨h0, h1, h2, h3, h4, h5, h6, h7, h8, h9⟩ := h
  exact ⟨hu.cell h0 (fun h => h), hu.cell h1 (fun h => h), hu.cell h2 (fun h => h), hu.cell h3 (fun h => h), hu.cell h4 (fun h => h), hu.cell h5 (fun h => h), hu.cell h6 (fun h => h), hu.cell h7 (fun h => h), hu.cell h8 (fun h => h), hu.cell h9 (fun h => h)⟩
theorem Exact.eq_iff {a0 a1 a2 a3 a4 b0 b1 b2 b3 b4 m n : Int} (h : Exact a0 a1 a2 a3 a4 m) (g : Exact b0 b1 b2 b3 b4 n) : eqB5 a0 a1 a2 a3 a4 b0 b1 b2 b3 b4 = decide (m = n) := by
  unfold eqB5
  obtain ⟨l0, u0, l1, u1, l2, u2, l3, u3, l4, u4, hv⟩ := h
  obtain ⟨k0, t0, k1, t1, k2, t2, k3, t3, k4, t4, gv⟩ := g
  rw [decide_eq_decide]
  unfold val5 at hv gv
  constructor
  · intro h
    simp only [List.cons.injEq, and_true] at h
    omega
  · intro h
    simp only [List.cons.injEq, and_true]
    omega
theorem guard5 : Tryd.prog.eqGuardType Tryd.prog.depth 37 = false := by kernel_rfl

set_option maxHeartbeats 1000000 in
theorem equal_any (x0 x1 x2 x3 x4 y0 y1 y2 y3 y4 m n : Int) (w : World) (hx : Fits x0 x1 x2 x3 x4 m) (hy : Fits y0 y1 y2 y3 y4 n) :
    Calls Tryd.prog 71 #[.agg #[.int .u64 x0, .int .u64 x1, .int .u64 x2, .int .u64 x3, .int .u64 x4], .agg #[.int .u64 y0, .int .u64 y1, .int .u64 y2, .int .u64 y3, .int .u64 y4]] w fun e w' => e = .returned (.bool (decide (m % pp = n % pp))) ∧ Upd (fun _ => False) w w' := by
  have Hx := Lib.hid hx
  have Hy := Lib.hid hy
  have e5 := eq5
  have hg := guard5
  clear hx hy
  go_enter Tryd.func71, Tryd.ntmps71
  go_wp2
  go_region_held3 (fun w' => w'.cell? ⟨w.heap.size, 0, none⟩ = some (.int .u64 x0) ∧ w'.cell? ⟨w.heap.size, 1, none⟩ = some (.int .u64 x1) ∧ w'.cell? ⟨w.heap.size, 2, none⟩ = some (.int .u64 x2) ∧ w'.cell? ⟨w.heap.size, 3, none⟩ = some (.int .u64 x3) ∧ w'.cell? ⟨w.heap.size, 4, none⟩ = some (.int .u64 x4) ∧ w'.cell? ⟨w.heap.size + 1, 0, none⟩ = some (.int .u64 y0) ∧ w'.cell? ⟨w.heap.size + 1, 1, none⟩ = some (.int .u64 y1) ∧ w'.cell? ⟨w.heap.size + 1, 2, none⟩ = some (.int .u64 y2) ∧ w'.cell? ⟨w.heap.size + 1, 3, none⟩ = some (.int .u64 y3) ∧ w'.cell? ⟨w.heap.size + 1, 4, none⟩ = some (.int .u64 y4)) (first | go_keep | exact Upd.cells10 hu1 ‹_› | exact Upd.cells10 hu2 ‹_›) (first
    | (go_at_call_of 83 x0; refine (least_any x0 x1 x2 x3 x4 m _ Hx.out).mono ?_; rintro e w1 ⟨a0, a1, a2, a3, a4, hE1, rfl, hu1⟩; have HE1 := Lib.hid hE1; clear hE1)
    | (go_at_call_of 83 y0; refine (least_any y0 y1 y2 y3 y4 n _ Hy.out).mono ?_; rintro e w2 ⟨b0, b1, b2, b3, b4, hE2, rfl, hu2⟩; have HE2 := Lib.hid hE2; clear hE2))
  all_goals
    go_wp2
    go_ret
    refine ⟨congrArg (fun b => Ending.returned (.bool b)) (HE1.out.eq_iff HE2.out), ?_⟩
    first
      | exact ((((Upd.refl _ w).alloc _).alloc _).drew.trans hu1).trans hu2
      | exact ((((Upd.refl _ w).alloc _).alloc _).drew.trans hu2).trans hu1

theorem Blk.at1 (w : World) (arr : Array Value) (t : TypeId) : Blk (w.alloc (.cells arr t)) w.heap.size t arr := Blk.new w arr t
theorem Blk.at2 (w : World) (a : Obj) (arr : Array Value) (t : TypeId) : Blk ((w.alloc a).alloc (.cells arr t)) (w.heap.size + 1) t arr := by
  have := Blk.new (w.alloc a) arr t
  simpa using this
theorem Blk.at3 (w : World) (a b : Obj) (arr : Array Value) (t : TypeId) : Blk (((w.alloc a).alloc b).alloc (.cells arr t)) (w.heap.size + 1 + 1) t arr := by
  have := Blk.new ((w.alloc a).alloc b) arr t
  simpa using this
theorem Blk.at4 (w : World) (a b c : Obj) (arr : Array Value) (t : TypeId) : Blk ((((w.alloc a).alloc b).alloc c).alloc (.cells arr t)) (w.heap.size + 1 + 1 + 1) t arr := by
  have := Blk.new (((w.alloc a).alloc b).alloc c) arr t
  simpa using this
theorem one5 (a0 a1 a2 a3 a4 : Int) : ∀ v ∈ (#[.int .u64 a0, .int .u64 a1, .int .u64 a2, .int .u64 a3, .int .u64 a4] : Array Value).toList, v.oneCell' = true := by
  intro v hv; simp at hv; rcases hv with rfl | rfl | rfl | rfl | rfl <;> rfl
theorem exact_zero : Exact 0 0 0 0 0 0 := ⟨by omega, by omega, by omega, by omega, by omega, by omega, by omega, by omega, by omega, by omega, by decide⟩
set_option maxHeartbeats 1000000 in
theorem isZero_any (x0 x1 x2 x3 x4 m : Int) (w : World) (hx : Fits x0 x1 x2 x3 x4 m) :
    Calls Tryd.prog 62 #[.agg #[.int .u64 x0, .int .u64 x1, .int .u64 x2, .int .u64 x3, .int .u64 x4]] w fun e w' => e = .returned (.bool (decide (m % pp = 0))) ∧ Upd (fun _ => False) w w' := by
  have Hx := Lib.hid hx
  have e5 := eq5
  have hg := guard5
  clear hx
  go_enter Tryd.func62, Tryd.ntmps62
  go_wp2_with fail
  refine (least_any x0 x1 x2 x3 x4 m _ Hx.out).mono ?_
  rintro e w1 ⟨a0, a1, a2, a3, a4, hE, rfl, hu⟩
  have HE := Lib.hid hE
  have Hu := Lib.hid hu
  clear hE hu
  go_wp2
  go_ret
  exact ⟨congrArg (fun b => Ending.returned (.bool b)) (HE.out.eq_iff exact_zero), ((Upd.refl _ w).alloc _).trans Hu.out⟩

theorem and_one (x : Int) (h0 : 0 ≤ x) (h1 : x < 18446744073709551616) : bits .and .u64 x 1 = x % 2 := by
  rw [u64_and x 1 h0 h1 (by omega) (by omega)]
  have e : x.toNat &&& (1 : Int).toNat = x.toNat % 2 := Nat.and_two_pow_sub_one_eq_mod x.toNat 1
  rw [e]
  omega
theorem Exact.odd {a0 a1 a2 a3 a4 n : Int} (h : Exact a0 a1 a2 a3 a4 n) : a0 % 2 = n % 2 := by
  obtain ⟨l0, u0, l1, u1, l2, u2, l3, u3, l4, u4, hv⟩ := h
  unfold val5 at hv
  omega
set_option maxHeartbeats 1000000 in
theorem odd_any (x0 x1 x2 x3 x4 m : Int) (w : World) (hx : Fits x0 x1 x2 x3 x4 m) :
    Calls Tryd.prog 69 #[.agg #[.int .u64 x0, .int .u64 x1, .int .u64 x2, .int .u64 x3, .int .u64 x4]] w fun e w' => e = .returned (.bool (decide (m % pp % 2 = 1))) ∧ Upd (fun _ => False) w w' := by
  have Hx := Lib.hid hx
  clear hx
  go_enter Tryd.func69, Tryd.ntmps69
  go_wp2_with fail
  refine (least_any x0 x1 x2 x3 x4 m _ Hx.out).mono ?_
  rintro e w1 ⟨a0, a1, a2, a3, a4, hE, rfl, hu⟩
  have HE := Lib.hid hE
  have Hu := Lib.hid hu
  have h1 := and_one a0 hE.l0 (by have := hE.u0; omega)
  obtain ⟨i0, -⟩ := idx5a (.int .u64 a0) (.int .u64 a1) (.int .u64 a2) (.int .u64 a3) (.int .u64 a4)
  have h2 := Lib.hid hE.odd
  clear hE hu
  go_wp2
  go_ret
  refine ⟨?_, ((Upd.refl _ w).alloc _).trans Hu.out⟩
  rw [← h2.out]
  rfl
set_option maxHeartbeats 1000000 in
theorem small_any (n : Int) (w : World) (h0 : 0 ≤ n) (h1 : n < 4294967296) : Calls Tryd.prog 43 #[.int .u32 n] w (RetE n w) := by
  have hf : Hid (Fits n 0 0 0 0 n) := ⟨by omega, by omega, by omega, by omega, by omega, by omega, by omega, by omega, by omega, by omega, ⟨0, by unfold val5; omega⟩⟩
  go_enter Tryd.func43, Tryd.ntmps43
  go_wp2
  exact bodyPost_ret (v := .agg #[.int .u64 n, .int .u64 0, .int .u64 0, .int .u64 0, .int .u64 0]) (by simp [results, Tryd.results43, go_sem]) rfl ⟨_, _, _, _, _, hf.out, rfl, (Upd.refl _ w).alloc _⟩
end Go.Proofs.YtdpafemcpbhlfaaDoor
namespace Go.Proofs.YtdpafemcpbhlfaaDoor
set_option maxRecDepth 100000
open Go.RowKit

theorem mul5 (x y0 y1 y2 y3 y4 : Int) : x * val5 y0 y1 y2 y3 y4 = x * y0 + 2251799813685248 * (x * y1) + 5070602400912917605986812821504 * (x * y2) + 11417981541647679048466287755595961091061972992 * (x * y3) + 25711008708143844408671393477458601640355247900524685364822016 * (x * y4) := by
  unfold val5
  rw [Int.mul_add, Int.mul_add, Int.mul_add, Int.mul_add, Int.mul_left_comm x 2251799813685248, Int.mul_left_comm x 5070602400912917605986812821504, Int.mul_left_comm x 11417981541647679048466287755595961091061972992, Int.mul_left_comm x 25711008708143844408671393477458601640355247900524685364822016]
theorem val5_mul (x0 x1 x2 x3 x4 y0 y1 y2 y3 y4 : Int) : val5 x0 x1 x2 x3 x4 * val5 y0 y1 y2 y3 y4 = x0 * val5 y0 y1 y2 y3 y4 + 2251799813685248 * (x1 * val5 y0 y1 y2 y3 y4) + 5070602400912917605986812821504 * (x2 * val5 y0 y1 y2 y3 y4) + 11417981541647679048466287755595961091061972992 * (x3 * val5 y0 y1 y2 y3 y4) + 25711008708143844408671393477458601640355247900524685364822016 * (x4 * val5 y0 y1 y2 y3 y4) := by
  have e : val5 x0 x1 x2 x3 x4 = x0 + 2251799813685248 * x1 + 5070602400912917605986812821504 * x2 + 11417981541647679048466287755595961091061972992 * x3 + 25711008708143844408671393477458601640355247900524685364822016 * x4 := rfl
  rw [e, Int.add_mul, Int.add_mul, Int.add_mul, Int.add_mul, Int.mul_assoc, Int.mul_assoc, Int.mul_assoc, Int.mul_assoc]
theorem mul_bd {a b A B C : Int} (ha0 : 0 ≤ a) (ha : a < A) (hb0 : 0 ≤ b) (hb : b < B) (hC : A * B = C) : 0 ≤ a * b ∧ a * b < C := by
  refine ⟨Int.mul_nonneg ha0 hb0, ?_⟩
  rw [← hC]
  exact Int.lt_of_le_of_lt (Int.mul_le_mul_of_nonneg_left (Int.le_of_lt hb) ha0) (Int.mul_lt_mul_of_pos_right ha (by omega))
theorem mul_cong (x0 x1 x2 x3 x4 y0 y1 y2 y3 y4 z0 z1 z2 z3 z4 o0 o1 o2 o3 o4 : Int)
    (e0 : 0 + x0 * y0 + x1 * (19 * y4) + x2 * (19 * y3) + x3 * (19 * y2) + x4 * (19 * y1) = 2251799813685248 * o0 + z0)
    (e1 : 0 + x0 * y1 + x1 * y0 + x2 * (19 * y4) + x3 * (19 * y3) + x4 * (19 * y2) + o0 = 2251799813685248 * o1 + z1)
    (e2 : 0 + x0 * y2 + x1 * y1 + x2 * y0 + x3 * (19 * y4) + x4 * (19 * y3) + o1 = 2251799813685248 * o2 + z2)
    (e3 : 0 + x0 * y3 + x1 * y2 + x2 * y1 + x3 * y0 + x4 * (19 * y4) + o2 = 2251799813685248 * o3 + z3)
    (e4 : 0 + x0 * y4 + x1 * y3 + x2 * y2 + x3 * y1 + x4 * y0 + o3 = 2251799813685248 * o4 + z4)
    : Cong (val5 ((z0 + 19 * o4) % 2251799813685248) (z1 + (z0 + 19 * o4) / 2251799813685248) z2 z3 z4) (val5 x0 x1 x2 x3 x4 * val5 y0 y1 y2 y3 y4) := by
  have q := Int.mul_ediv_add_emod (z0 + 19 * o4) 2251799813685248
  generalize (z0 + 19 * o4) / 2251799813685248 = d at *
  generalize (z0 + 19 * o4) % 2251799813685248 = r at *
  rw [val5_mul, mul5 x0, mul5 x1, mul5 x2, mul5 x3, mul5 x4]
  rw [Int.mul_left_comm x1 19 y4] at e0
  rw [Int.mul_left_comm x2 19 y3] at e0
  rw [Int.mul_left_comm x2 19 y4] at e1
  rw [Int.mul_left_comm x3 19 y2] at e0
  rw [Int.mul_left_comm x3 19 y3] at e1
  rw [Int.mul_left_comm x3 19 y4] at e2
  rw [Int.mul_left_comm x4 19 y1] at e0
  rw [Int.mul_left_comm x4 19 y2] at e1
  rw [Int.mul_left_comm x4 19 y3] at e2
  rw [Int.mul_left_comm x4 19 y4] at e3
  refine ⟨-o4 - 1 * (x1 * y4) - 1 * (x2 * y3) - 2251799813685248 * (x2 * y4) - 1 * (x3 * y2) - 2251799813685248 * (x3 * y3) - 5070602400912917605986812821504 * (x3 * y4) - 1 * (x4 * y1) - 2251799813685248 * (x4 * y2) - 5070602400912917605986812821504 * (x4 * y3) - 11417981541647679048466287755595961091061972992 * (x4 * y4), ?_⟩
  unfold pp
  rw [show val5 r (z1 + d) z2 z3 z4 = r + 2251799813685248 * (z1 + d) + 5070602400912917605986812821504 * z2 + 11417981541647679048466287755595961091061972992 * z3 + 25711008708143844408671393477458601640355247900524685364822016 * z4 from rfl]
  omega
end Go.Proofs.YtdpafemcpbhlfaaDoor
namespace Go.Proofs.YtdpafemcpbhlfaaDoor
set_option maxRecDepth 100000
open Go.RowKit

theorem info28 : (Tryd.prog.info? 39).map (·.size) = some 5 := by kernel_rfl
set_option maxRecDepth 100000 in
set_option maxHeartbeats 4000000 in
theorem mul_any (x0 x1 x2 x3 x4 y0 y1 y2 y3 y4 m n : Int) (w : World) (hx : Fits x0 x1 x2 x3 x4 m) (hy : Fits y0 y1 y2 y3 y4 n) :
    Calls Tryd.prog 44 #[.agg #[.int .u64 x0, .int .u64 x1, .int .u64 x2, .int .u64 x3, .int .u64 x4], .agg #[.int .u64 y0, .int .u64 y1, .int .u64 y2, .int .u64 y3, .int .u64 y4]] w (RetE (m * n) w) := by
  obtain ⟨a0, c0, a1, c1, a2, c2, a3, c3, a4, c4, hcx⟩ := hx
  obtain ⟨b0, d0, b1, d1, b2, d2, b3, d3, b4, d4, hcy⟩ := hy
  have Hcx := Lib.hid hcx
  have Hcy := Lib.hid hcy
  clear hcx hcy
  have HB0 := Lib.hid (And.intro (mul_bd (a := x0) (b := y0) (A := 4503599627370496) (B := 4503599627370496) (C := 20282409603651670423947251286016) a0 (by omega) b0 (by omega) (by decide)) (And.intro (mul_bd (a := x1) (b := (19 * y4)) (A := 4503599627370496) (B := 144115188075855872) (C := 649037107316853453566312041152512) a1 (by omega) (by omega) (by omega) (by decide)) (And.intro (mul_bd (a := x2) (b := (19 * y3)) (A := 4503599627370496) (B := 144115188075855872) (C := 649037107316853453566312041152512) a2 (by omega) (by omega) (by omega) (by decide)) (And.intro (mul_bd (a := x3) (b := (19 * y2)) (A := 4503599627370496) (B := 144115188075855872) (C := 649037107316853453566312041152512) a3 (by omega) (by omega) (by omega) (by decide)) (mul_bd (a := x4) (b := (19 * y1)) (A := 4503599627370496) (B := 144115188075855872) (C := 649037107316853453566312041152512) a4 (by omega) (by omega) (by omega) (by decide))))))
  have HB1 := Lib.hid (And.intro (mul_bd (a := x0) (b := y1) (A := 4503599627370496) (B := 4503599627370496) (C := 20282409603651670423947251286016) a0 (by omega) b1 (by omega) (by decide)) (And.intro (mul_bd (a := x1) (b := y0) (A := 4503599627370496) (B := 4503599627370496) (C := 20282409603651670423947251286016) a1 (by omega) b0 (by omega) (by decide)) (And.intro (mul_bd (a := x2) (b := (19 * y4)) (A := 4503599627370496) (B := 144115188075855872) (C := 649037107316853453566312041152512) a2 (by omega) (by omega) (by omega) (by decide)) (And.intro (mul_bd (a := x3) (b := (19 * y3)) (A := 4503599627370496) (B := 144115188075855872) (C := 649037107316853453566312041152512) a3 (by omega) (by omega) (by omega) (by decide)) (mul_bd (a := x4) (b := (19 * y2)) (A := 4503599627370496) (B := 144115188075855872) (C := 649037107316853453566312041152512) a4 (by omega) (by omega) (by omega) (by decide))))))
  have HB2 := Lib.hid (And.intro (mul_bd (a := x0) (b := y2) (A := 4503599627370496) (B := 4503599627370496) (C := 20282409603651670423947251286016) a0 (by omega) b2 (by omega) (by decide)) (And.intro (mul_bd (a := x1) (b := y1) (A := 4503599627370496) (B := 4503599627370496) (C := 20282409603651670423947251286016) a1 (by omega) b1 (by omega) (by decide)) (And.intro (mul_bd (a := x2) (b := y0) (A := 4503599627370496) (B := 4503599627370496) (C := 20282409603651670423947251286016) a2 (by omega) b0 (by omega) (by decide)) (And.intro (mul_bd (a := x3) (b := (19 * y4)) (A := 4503599627370496) (B := 144115188075855872) (C := 649037107316853453566312041152512) a3 (by omega) (by omega) (by omega) (by decide)) (mul_bd (a := x4) (b := (19 * y3)) (A := 4503599627370496) (B := 144115188075855872) (C := 649037107316853453566312041152512) a4 (by omega) (by omega) (by omega) (by decide))))))
  have HB3 := Lib.hid (And.intro (mul_bd (a := x0) (b := y3) (A := 4503599627370496) (B := 4503599627370496) (C := 20282409603651670423947251286016) a0 (by omega) b3 (by omega) (by decide)) (And.intro (mul_bd (a := x1) (b := y2) (A := 4503599627370496) (B := 4503599627370496) (C := 20282409603651670423947251286016) a1 (by omega) b2 (by omega) (by decide)) (And.intro (mul_bd (a := x2) (b := y1) (A := 4503599627370496) (B := 4503599627370496) (C := 20282409603651670423947251286016) a2 (by omega) b1 (by omega) (by decide)) (And.intro (mul_bd (a := x3) (b := y0) (A := 4503599627370496) (B := 4503599627370496) (C := 20282409603651670423947251286016) a3 (by omega) b0 (by omega) (by decide)) (mul_bd (a := x4) (b := (19 * y4)) (A := 4503599627370496) (B := 144115188075855872) (C := 649037107316853453566312041152512) a4 (by omega) (by omega) (by omega) (by decide))))))
  have HB4 := Lib.hid (And.intro (mul_bd (a := x0) (b := y4) (A := 4503599627370496) (B := 4503599627370496) (C := 20282409603651670423947251286016) a0 (by omega) b4 (by omega) (by decide)) (And.intro (mul_bd (a := x1) (b := y3) (A := 4503599627370496) (B := 4503599627370496) (C := 20282409603651670423947251286016) a1 (by omega) b3 (by omega) (by decide)) (And.intro (mul_bd (a := x2) (b := y2) (A := 4503599627370496) (B := 4503599627370496) (C := 20282409603651670423947251286016) a2 (by omega) b2 (by omega) (by decide)) (And.intro (mul_bd (a := x3) (b := y1) (A := 4503599627370496) (B := 4503599627370496) (C := 20282409603651670423947251286016) a3 (by omega) b1 (by omega) (by decide)) (mul_bd (a := x4) (b := y0) (A := 4503599627370496) (B := 4503599627370496) (C := 20282409603651670423947251286016) a4 (by omega) b0 (by omega) (by decide))))))
  go_enter Tryd.func44, Tryd.ntmps44
  go_wp2
  go_quiet (fail)
  go_wp2
  go_quiet (fail)
  have hblk : Blk ((((w.alloc (.cells #[.int .u64 x0, .int .u64 x1, .int .u64 x2, .int .u64 x3, .int .u64 x4] 39)).alloc (.cells #[.int .u64 y0, .int .u64 y1, .int .u64 y2, .int .u64 y3, .int .u64 y4] 39)).alloc (.cells #[.int .u64 0, .int .u64 0, .int .u64 0, .int .u64 0, .int .u64 0] 39))) (w.heap.size + 1 + 1) 39 #[.int .u64 0, .int .u64 0, .int .u64 0, .int .u64 0, .int .u64 0] := by
    have := Blk.new ((w.alloc (.cells #[.int .u64 x0, .int .u64 x1, .int .u64 x2, .int .u64 x3, .int .u64 x4] 39)).alloc (.cells #[.int .u64 y0, .int .u64 y1, .int .u64 y2, .int .u64 y3, .int .u64 y4] 39)) #[.int .u64 0, .int .u64 0, .int .u64 0, .int .u64 0, .int .u64 0] 39
    simpa using this
  go_wp2_with fail
  refine (plus_any 0 0 x0 y0 (0) _ (by omega) (by omega) (by omega) (by decide) a0 (by omega) b0 (by omega) (by have := HB0.out; omega)).mono ?_
  rintro e w1 ⟨hi1, lo1, pa1, pb1, pc1, hE, rfl, hu⟩
  have Hu1 := Lib.hid ((((((Upd.refl (fun _ => False) w).alloc _).alloc _).alloc _).drewN _).trans hu)
  have Hb1 := Lib.hid (hu.blk (hblk.drewN _) (fun h => h))
  clear hblk
  have HE1 := Lib.hid hE
  clear hE hu
  go_wp2_with fail
  refine (plus_any hi1 lo1 x1 (19 * y4) (0 + x0 * y0) _ pa1 pb1 pc1 HE1.out a1 (by omega) (by omega) (by omega) (by have := HB0.out; omega)).mono ?_
  rintro e w2 ⟨hi2, lo2, pa2, pb2, pc2, hE, rfl, hu⟩
  have Hu2 := Lib.hid (Hu1.out.trans hu)
  have Hb2 := Lib.hid (hu.blk Hb1.out (fun h => h))
  clear Hu1 Hb1
  have HE2 := Lib.hid hE
  clear hE hu
  clear HE1 pa1 pb1 pc1
  go_wp2_with fail
  refine (plus_any hi2 lo2 x2 (19 * y3) (0 + x0 * y0 + x1 * (19 * y4)) _ pa2 pb2 pc2 HE2.out a2 (by omega) (by omega) (by omega) (by have := HB0.out; omega)).mono ?_
  rintro e w3 ⟨hi3, lo3, pa3, pb3, pc3, hE, rfl, hu⟩
  have Hu3 := Lib.hid (Hu2.out.trans hu)
  have Hb3 := Lib.hid (hu.blk Hb2.out (fun h => h))
  clear Hu2 Hb2
  have HE3 := Lib.hid hE
  clear hE hu
  clear HE2 pa2 pb2 pc2
  go_wp2_with fail
  refine (plus_any hi3 lo3 x3 (19 * y2) (0 + x0 * y0 + x1 * (19 * y4) + x2 * (19 * y3)) _ pa3 pb3 pc3 HE3.out a3 (by omega) (by omega) (by omega) (by have := HB0.out; omega)).mono ?_
  rintro e w4 ⟨hi4, lo4, pa4, pb4, pc4, hE, rfl, hu⟩
  have Hu4 := Lib.hid (Hu3.out.trans hu)
  have Hb4 := Lib.hid (hu.blk Hb3.out (fun h => h))
  clear Hu3 Hb3
  have HE4 := Lib.hid hE
  clear hE hu
  clear HE3 pa3 pb3 pc3
  go_wp2_with fail
  refine (plus_any hi4 lo4 x4 (19 * y1) (0 + x0 * y0 + x1 * (19 * y4) + x2 * (19 * y3) + x3 * (19 * y2)) _ pa4 pb4 pc4 HE4.out a4 (by omega) (by omega) (by omega) (by have := HB0.out; omega)).mono ?_
  rintro e w5 ⟨hi5, lo5, pa5, pb5, pc5, hE, rfl, hu⟩
  have Hu5 := Lib.hid (Hu4.out.trans hu)
  have Hb5 := Lib.hid (hu.blk Hb4.out (fun h => h))
  clear Hu4 Hb4
  have HE5 := Lib.hid hE
  clear hE hu
  clear HE4 pa4 pb4 pc4
  go_wp2_with fail
  refine (cut_any hi5 lo5 0 (0 + x0 * y0 + x1 * (19 * y4) + x2 * (19 * y3) + x3 * (19 * y2) + x4 * (19 * y1)) _ pa5 pb5 pc5 HE5.out (by omega) (by omega) (by have := HB0.out; omega)).mono ?_
  rintro e w6 ⟨rfl, hu⟩
  have Hu6 := Lib.hid (Hu5.out.trans hu)
  have Hb6 := Lib.hid (hu.blk Hb5.out (fun h => h))
  clear Hu5 Hb5 HE5 pa5 pb5 pc5 hu
  have q0 := Int.mul_ediv_add_emod (0 + x0 * y0 + x1 * (19 * y4) + x2 * (19 * y3) + x3 * (19 * y2) + x4 * (19 * y1) + 0) 2251799813685248
  have z0l := Int.emod_nonneg (0 + x0 * y0 + x1 * (19 * y4) + x2 * (19 * y3) + x3 * (19 * y2) + x4 * (19 * y1) + 0) (b := 2251799813685248) (by omega)
  have z0u := Int.emod_lt_of_pos (0 + x0 * y0 + x1 * (19 * y4) + x2 * (19 * y3) + x3 * (19 * y2) + x4 * (19 * y1) + 0) (b := 2251799813685248) (by omega)
  generalize (0 + x0 * y0 + x1 * (19 * y4) + x2 * (19 * y3) + x3 * (19 * y2) + x4 * (19 * y1) + 0) % 2251799813685248 = z0 at *
  generalize (0 + x0 * y0 + x1 * (19 * y4) + x2 * (19 * y3) + x3 * (19 * y2) + x4 * (19 * y1) + 0) / 2251799813685248 = o0 at *
  have o0l : 0 ≤ o0 := by have := HB0.out; omega
  have o0u : o0 < 18446744073709551616 := by have := HB0.out; omega
  have Q0 := Lib.hid q0
  clear q0 HB0
  go_wp2_with fail
  refine (plus_any 0 0 x0 y1 (0) _ (by omega) (by omega) (by omega) (by decide) a0 (by omega) b1 (by omega) (by have := HB1.out; omega)).mono ?_
  rintro e w7 ⟨hi7, lo7, pa7, pb7, pc7, hE, rfl, hu⟩
  have Hu7 := Lib.hid (Hu6.out.trans hu)
  have Hb7 := Lib.hid (hu.blk Hb6.out (fun h => h))
  clear Hu6 Hb6
  have HE7 := Lib.hid hE
  clear hE hu
  go_wp2_with fail
  refine (plus_any hi7 lo7 x1 y0 (0 + x0 * y1) _ pa7 pb7 pc7 HE7.out a1 (by omega) b0 (by omega) (by have := HB1.out; omega)).mono ?_
  rintro e w8 ⟨hi8, lo8, pa8, pb8, pc8, hE, rfl, hu⟩
  have Hu8 := Lib.hid (Hu7.out.trans hu)
  have Hb8 := Lib.hid (hu.blk Hb7.out (fun h => h))
  clear Hu7 Hb7
  have HE8 := Lib.hid hE
  clear hE hu
  clear HE7 pa7 pb7 pc7
  go_wp2_with fail
  refine (plus_any hi8 lo8 x2 (19 * y4) (0 + x0 * y1 + x1 * y0) _ pa8 pb8 pc8 HE8.out a2 (by omega) (by omega) (by omega) (by have := HB1.out; omega)).mono ?_
  rintro e w9 ⟨hi9, lo9, pa9, pb9, pc9, hE, rfl, hu⟩
  have Hu9 := Lib.hid (Hu8.out.trans hu)
  have Hb9 := Lib.hid (hu.blk Hb8.out (fun h => h))
  clear Hu8 Hb8
  have HE9 := Lib.hid hE
  clear hE hu
  clear HE8 pa8 pb8 pc8
  go_wp2_with fail
  refine (plus_any hi9 lo9 x3 (19 * y3) (0 + x0 * y1 + x1 * y0 + x2 * (19 * y4)) _ pa9 pb9 pc9 HE9.out a3 (by omega) (by omega) (by omega) (by have := HB1.out; omega)).mono ?_
  rintro e w10 ⟨hi10, lo10, pa10, pb10, pc10, hE, rfl, hu⟩
  have Hu10 := Lib.hid (Hu9.out.trans hu)
  have Hb10 := Lib.hid (hu.blk Hb9.out (fun h => h))
  clear Hu9 Hb9
  have HE10 := Lib.hid hE
  clear hE hu
  clear HE9 pa9 pb9 pc9
  go_wp2_with fail
  refine (plus_any hi10 lo10 x4 (19 * y2) (0 + x0 * y1 + x1 * y0 + x2 * (19 * y4) + x3 * (19 * y3)) _ pa10 pb10 pc10 HE10.out a4 (by omega) (by omega) (by omega) (by have := HB1.out; omega)).mono ?_
  rintro e w11 ⟨hi11, lo11, pa11, pb11, pc11, hE, rfl, hu⟩
  have Hu11 := Lib.hid (Hu10.out.trans hu)
  have Hb11 := Lib.hid (hu.blk Hb10.out (fun h => h))
  clear Hu10 Hb10
  have HE11 := Lib.hid hE
  clear hE hu
  clear HE10 pa10 pb10 pc10
  go_wp2_with fail
  refine (cut_any hi11 lo11 o0 (0 + x0 * y1 + x1 * y0 + x2 * (19 * y4) + x3 * (19 * y3) + x4 * (19 * y2)) _ pa11 pb11 pc11 HE11.out o0l o0u (by have := HB1.out; have := o0u; omega)).mono ?_
  rintro e w12 ⟨rfl, hu⟩
  have Hu12 := Lib.hid (Hu11.out.trans hu)
  have Hb12 := Lib.hid (hu.blk Hb11.out (fun h => h))
  clear Hu11 Hb11 HE11 pa11 pb11 pc11 hu
  have q1 := Int.mul_ediv_add_emod (0 + x0 * y1 + x1 * y0 + x2 * (19 * y4) + x3 * (19 * y3) + x4 * (19 * y2) + o0) 2251799813685248
  have z1l := Int.emod_nonneg (0 + x0 * y1 + x1 * y0 + x2 * (19 * y4) + x3 * (19 * y3) + x4 * (19 * y2) + o0) (b := 2251799813685248) (by omega)
  have z1u := Int.emod_lt_of_pos (0 + x0 * y1 + x1 * y0 + x2 * (19 * y4) + x3 * (19 * y3) + x4 * (19 * y2) + o0) (b := 2251799813685248) (by omega)
  generalize (0 + x0 * y1 + x1 * y0 + x2 * (19 * y4) + x3 * (19 * y3) + x4 * (19 * y2) + o0) % 2251799813685248 = z1 at *
  generalize (0 + x0 * y1 + x1 * y0 + x2 * (19 * y4) + x3 * (19 * y3) + x4 * (19 * y2) + o0) / 2251799813685248 = o1 at *
  have o1l : 0 ≤ o1 := by have := HB1.out; omega
  have o1u : o1 < 18446744073709551616 := by have := HB1.out; omega
  have Q1 := Lib.hid q1
  clear q1 HB1
  go_wp2_with fail
  refine (plus_any 0 0 x0 y2 (0) _ (by omega) (by omega) (by omega) (by decide) a0 (by omega) b2 (by omega) (by have := HB2.out; omega)).mono ?_
  rintro e w13 ⟨hi13, lo13, pa13, pb13, pc13, hE, rfl, hu⟩
  have Hu13 := Lib.hid (Hu12.out.trans hu)
  have Hb13 := Lib.hid (hu.blk Hb12.out (fun h => h))
  clear Hu12 Hb12
  have HE13 := Lib.hid hE
  clear hE hu
  go_wp2_with fail
  refine (plus_any hi13 lo13 x1 y1 (0 + x0 * y2) _ pa13 pb13 pc13 HE13.out a1 (by omega) b1 (by omega) (by have := HB2.out; omega)).mono ?_
  rintro e w14 ⟨hi14, lo14, pa14, pb14, pc14, hE, rfl, hu⟩
  have Hu14 := Lib.hid (Hu13.out.trans hu)
  have Hb14 := Lib.hid (hu.blk Hb13.out (fun h => h))
  clear Hu13 Hb13
  have HE14 := Lib.hid hE
  clear hE hu
  clear HE13 pa13 pb13 pc13
  go_wp2_with fail
  refine (plus_any hi14 lo14 x2 y0 (0 + x0 * y2 + x1 * y1) _ pa14 pb14 pc14 HE14.out a2 (by omega) b0 (by omega) (by have := HB2.out; omega)).mono ?_
  rintro e w15 ⟨hi15, lo15, pa15, pb15, pc15, hE, rfl, hu⟩
  have Hu15 := Lib.hid (Hu14.out.trans hu)
  have Hb15 := Lib.hid (hu.blk Hb14.out (fun h => h))
  clear Hu14 Hb14
  have HE15 := Lib.hid hE
  clear hE hu
  clear HE14 pa14 pb14 pc14
  go_wp2_with fail
  refine (plus_any hi15 lo15 x3 (19 * y4) (0 + x0 * y2 + x1 * y1 + x2 * y0) _ pa15 pb15 pc15 HE15.out a3 (by omega) (by omega) (by omega) (by have := HB2.out; omega)).mono ?_
  rintro e w16 ⟨hi16, lo16, pa16, pb16, pc16, hE, rfl, hu⟩
  have Hu16 := Lib.hid (Hu15.out.trans hu)
  have Hb16 := Lib.hid (hu.blk Hb15.out (fun h => h))
  clear Hu15 Hb15
  have HE16 := Lib.hid hE
  clear hE hu
  clear HE15 pa15 pb15 pc15
  go_wp2_with fail
  refine (plus_any hi16 lo16 x4 (19 * y3) (0 + x0 * y2 + x1 * y1 + x2 * y0 + x3 * (19 * y4)) _ pa16 pb16 pc16 HE16.out a4 (by omega) (by omega) (by omega) (by have := HB2.out; omega)).mono ?_
  rintro e w17 ⟨hi17, lo17, pa17, pb17, pc17, hE, rfl, hu⟩
  have Hu17 := Lib.hid (Hu16.out.trans hu)
  have Hb17 := Lib.hid (hu.blk Hb16.out (fun h => h))
  clear Hu16 Hb16
  have HE17 := Lib.hid hE
  clear hE hu
  clear HE16 pa16 pb16 pc16
  go_wp2_with fail
  refine (cut_any hi17 lo17 o1 (0 + x0 * y2 + x1 * y1 + x2 * y0 + x3 * (19 * y4) + x4 * (19 * y3)) _ pa17 pb17 pc17 HE17.out o1l o1u (by have := HB2.out; have := o1u; omega)).mono ?_
  rintro e w18 ⟨rfl, hu⟩
  have Hu18 := Lib.hid (Hu17.out.trans hu)
  have Hb18 := Lib.hid (hu.blk Hb17.out (fun h => h))
  clear Hu17 Hb17 HE17 pa17 pb17 pc17 hu
  have q2 := Int.mul_ediv_add_emod (0 + x0 * y2 + x1 * y1 + x2 * y0 + x3 * (19 * y4) + x4 * (19 * y3) + o1) 2251799813685248
  have z2l := Int.emod_nonneg (0 + x0 * y2 + x1 * y1 + x2 * y0 + x3 * (19 * y4) + x4 * (19 * y3) + o1) (b := 2251799813685248) (by omega)
  have z2u := Int.emod_lt_of_pos (0 + x0 * y2 + x1 * y1 + x2 * y0 + x3 * (19 * y4) + x4 * (19 * y3) + o1) (b := 2251799813685248) (by omega)
  generalize (0 + x0 * y2 + x1 * y1 + x2 * y0 + x3 * (19 * y4) + x4 * (19 * y3) + o1) % 2251799813685248 = z2 at *
  generalize (0 + x0 * y2 + x1 * y1 + x2 * y0 + x3 * (19 * y4) + x4 * (19 * y3) + o1) / 2251799813685248 = o2 at *
  have o2l : 0 ≤ o2 := by have := HB2.out; omega
  have o2u : o2 < 18446744073709551616 := by have := HB2.out; omega
  have Q2 := Lib.hid q2
  clear q2 HB2
  go_wp2_with fail
  refine (plus_any 0 0 x0 y3 (0) _ (by omega) (by omega) (by omega) (by decide) a0 (by omega) b3 (by omega) (by have := HB3.out; omega)).mono ?_
  rintro e w19 ⟨hi19, lo19, pa19, pb19, pc19, hE, rfl, hu⟩
  have Hu19 := Lib.hid (Hu18.out.trans hu)
  have Hb19 := Lib.hid (hu.blk Hb18.out (fun h => h))
  clear Hu18 Hb18
  have HE19 := Lib.hid hE
  clear hE hu
  go_wp2_with fail
  refine (plus_any hi19 lo19 x1 y2 (0 + x0 * y3) _ pa19 pb19 pc19 HE19.out a1 (by omega) b2 (by omega) (by have := HB3.out; omega)).mono ?_
  rintro e w20 ⟨hi20, lo20, pa20, pb20, pc20, hE, rfl, hu⟩
  have Hu20 := Lib.hid (Hu19.out.trans hu)
  have Hb20 := Lib.hid (hu.blk Hb19.out (fun h => h))
  clear Hu19 Hb19
  have HE20 := Lib.hid hE
  clear hE hu
  clear HE19 pa19 pb19 pc19
  go_wp2_with fail
  refine (plus_any hi20 lo20 x2 y1 (0 + x0 * y3 + x1 * y2) _ pa20 pb20 pc20 HE20.out a2 (by omega) b1 (by omega) (by have := HB3.out; omega)).mono ?_
  rintro e w21 ⟨hi21, lo21, pa21, pb21, pc21, hE, rfl, hu⟩
  have Hu21 := Lib.hid (Hu20.out.trans hu)
  have Hb21 := Lib.hid (hu.blk Hb20.out (fun h => h))
  clear Hu20 Hb20
  have HE21 := Lib.hid hE
  clear hE hu
  clear HE20 pa20 pb20 pc20
  go_wp2_with fail
  refine (plus_any hi21 lo21 x3 y0 (0 + x0 * y3 + x1 * y2 + x2 * y1) _ pa21 pb21 pc21 HE21.out a3 (by omega) b0 (by omega) (by have := HB3.out; omega)).mono ?_
  rintro e w22 ⟨hi22, lo22, pa22, pb22, pc22, hE, rfl, hu⟩
  have Hu22 := Lib.hid (Hu21.out.trans hu)
  have Hb22 := Lib.hid (hu.blk Hb21.out (fun h => h))
  clear Hu21 Hb21
  have HE22 := Lib.hid hE
  clear hE hu
  clear HE21 pa21 pb21 pc21
  go_wp2_with fail
  refine (plus_any hi22 lo22 x4 (19 * y4) (0 + x0 * y3 + x1 * y2 + x2 * y1 + x3 * y0) _ pa22 pb22 pc22 HE22.out a4 (by omega) (by omega) (by omega) (by have := HB3.out; omega)).mono ?_
  rintro e w23 ⟨hi23, lo23, pa23, pb23, pc23, hE, rfl, hu⟩
  have Hu23 := Lib.hid (Hu22.out.trans hu)
  have Hb23 := Lib.hid (hu.blk Hb22.out (fun h => h))
  clear Hu22 Hb22
  have HE23 := Lib.hid hE
  clear hE hu
  clear HE22 pa22 pb22 pc22
  go_wp2_with fail
  refine (cut_any hi23 lo23 o2 (0 + x0 * y3 + x1 * y2 + x2 * y1 + x3 * y0 + x4 * (19 * y4)) _ pa23 pb23 pc23 HE23.out o2l o2u (by have := HB3.out; have := o2u; omega)).mono ?_
  rintro e w24 ⟨rfl, hu⟩
  have Hu24 := Lib.hid (Hu23.out.trans hu)
  have Hb24 := Lib.hid (hu.blk Hb23.out (fun h => h))
  clear Hu23 Hb23 HE23 pa23 pb23 pc23 hu
  have q3 := Int.mul_ediv_add_emod (0 + x0 * y3 + x1 * y2 + x2 * y1 + x3 * y0 + x4 * (19 * y4) + o2) 2251799813685248
  have z3l := Int.emod_nonneg (0 + x0 * y3 + x1 * y2 + x2 * y1 + x3 * y0 + x4 * (19 * y4) + o2) (b := 2251799813685248) (by omega)
  have z3u := Int.emod_lt_of_pos (0 + x0 * y3 + x1 * y2 + x2 * y1 + x3 * y0 + x4 * (19 * y4) + o2) (b := 2251799813685248) (by omega)
  generalize (0 + x0 * y3 + x1 * y2 + x2 * y1 + x3 * y0 + x4 * (19 * y4) + o2) % 2251799813685248 = z3 at *
  generalize (0 + x0 * y3 + x1 * y2 + x2 * y1 + x3 * y0 + x4 * (19 * y4) + o2) / 2251799813685248 = o3 at *
  have o3l : 0 ≤ o3 := by have := HB3.out; omega
  have o3u : o3 < 18446744073709551616 := by have := HB3.out; omega
  have Q3 := Lib.hid q3
  clear q3 HB3
  go_wp2_with fail
  refine (plus_any 0 0 x0 y4 (0) _ (by omega) (by omega) (by omega) (by decide) a0 (by omega) b4 (by omega) (by have := HB4.out; omega)).mono ?_
  rintro e w25 ⟨hi25, lo25, pa25, pb25, pc25, hE, rfl, hu⟩
  have Hu25 := Lib.hid (Hu24.out.trans hu)
  have Hb25 := Lib.hid (hu.blk Hb24.out (fun h => h))
  clear Hu24 Hb24
  have HE25 := Lib.hid hE
  clear hE hu
  go_wp2_with fail
  refine (plus_any hi25 lo25 x1 y3 (0 + x0 * y4) _ pa25 pb25 pc25 HE25.out a1 (by omega) b3 (by omega) (by have := HB4.out; omega)).mono ?_
  rintro e w26 ⟨hi26, lo26, pa26, pb26, pc26, hE, rfl, hu⟩
  have Hu26 := Lib.hid (Hu25.out.trans hu)
  have Hb26 := Lib.hid (hu.blk Hb25.out (fun h => h))
  clear Hu25 Hb25
  have HE26 := Lib.hid hE
  clear hE hu
  clear HE25 pa25 pb25 pc25
  go_wp2_with fail
  refine (plus_any hi26 lo26 x2 y2 (0 + x0 * y4 + x1 * y3) _ pa26 pb26 pc26 HE26.out a2 (by omega) b2 (by omega) (by have := HB4.out; omega)).mono ?_
  rintro e w27 ⟨hi27, lo27, pa27, pb27, pc27, hE, rfl, hu⟩
  have Hu27 := Lib.hid (Hu26.out.trans hu)
  have Hb27 := Lib.hid (hu.blk Hb26.out (fun h => h))
  clear Hu26 Hb26
  have HE27 := Lib.hid hE
  clear hE hu
  clear HE26 pa26 pb26 pc26
  go_wp2_with fail
  refine (plus_any hi27 lo27 x3 y1 (0 + x0 * y4 + x1 * y3 + x2 * y2) _ pa27 pb27 pc27 HE27.out a3 (by omega) b1 (by omega) (by have := HB4.out; omega)).mono ?_
  rintro e w28 ⟨hi28, lo28, pa28, pb28, pc28, hE, rfl, hu⟩
  have Hu28 := Lib.hid (Hu27.out.trans hu)
  have Hb28 := Lib.hid (hu.blk Hb27.out (fun h => h))
  clear Hu27 Hb27
  have HE28 := Lib.hid hE
  clear hE hu
  clear HE27 pa27 pb27 pc27
  go_wp2_with fail
  refine (plus_any hi28 lo28 x4 y0 (0 + x0 * y4 + x1 * y3 + x2 * y2 + x3 * y1) _ pa28 pb28 pc28 HE28.out a4 (by omega) b0 (by omega) (by have := HB4.out; omega)).mono ?_
  rintro e w29 ⟨hi29, lo29, pa29, pb29, pc29, hE, rfl, hu⟩
  have Hu29 := Lib.hid (Hu28.out.trans hu)
  have Hb29 := Lib.hid (hu.blk Hb28.out (fun h => h))
  clear Hu28 Hb28
  have HE29 := Lib.hid hE
  clear hE hu
  clear HE28 pa28 pb28 pc28
  go_wp2_with fail
  refine (cut_any hi29 lo29 o3 (0 + x0 * y4 + x1 * y3 + x2 * y2 + x3 * y1 + x4 * y0) _ pa29 pb29 pc29 HE29.out o3l o3u (by have := HB4.out; have := o3u; omega)).mono ?_
  rintro e w30 ⟨rfl, hu⟩
  have Hu30 := Lib.hid (Hu29.out.trans hu)
  have Hb30 := Lib.hid (hu.blk Hb29.out (fun h => h))
  clear Hu29 Hb29 HE29 pa29 pb29 pc29 hu
  have q4 := Int.mul_ediv_add_emod (0 + x0 * y4 + x1 * y3 + x2 * y2 + x3 * y1 + x4 * y0 + o3) 2251799813685248
  have z4l := Int.emod_nonneg (0 + x0 * y4 + x1 * y3 + x2 * y2 + x3 * y1 + x4 * y0 + o3) (b := 2251799813685248) (by omega)
  have z4u := Int.emod_lt_of_pos (0 + x0 * y4 + x1 * y3 + x2 * y2 + x3 * y1 + x4 * y0 + o3) (b := 2251799813685248) (by omega)
  generalize (0 + x0 * y4 + x1 * y3 + x2 * y2 + x3 * y1 + x4 * y0 + o3) % 2251799813685248 = z4 at *
  generalize (0 + x0 * y4 + x1 * y3 + x2 * y2 + x3 * y1 + x4 * y0 + o3) / 2251799813685248 = o4 at *
  have o4l : 0 ≤ o4 := by have := HB4.out; omega
  have o4u : o4 < 144115188075855872 := by have := HB4.out; omega
  have Q4 := Lib.hid q4
  clear q4 HB4
  have m0 := and_mask (z0 + 19 * o4) (by omega) (by omega)
  have hone : ∀ v ∈ (#[.int .u64 ((z0 + 19 * o4) % 2251799813685248), .int .u64 (z1 + (z0 + 19 * o4) / 2251799813685248), .int .u64 z2, .int .u64 z3, .int .u64 z4] : Array Value).toList, v.oneCell' = true := by
    intro v hv; simp at hv; rcases hv with rfl | rfl | rfl | rfl | rfl <;> rfl
  have Hone := Lib.hid hone
  have Hf : Hid (Fits ((z0 + 19 * o4) % 2251799813685248) (z1 + (z0 + 19 * o4) / 2251799813685248) z2 z3 z4 (m * n)) := by
    refine ⟨by omega, by omega, by omega, by omega, by omega, by omega, by omega, by omega, by omega, by omega, ?_⟩
    refine Cong.trans (mul_cong x0 x1 x2 x3 x4 y0 y1 y2 y3 y4 z0 z1 z2 z3 z4 o0 o1 o2 o3 o4 ?_ ?_ ?_ ?_ ?_) (Cong.mul Hcx.out Hcy.out)
    · have := Q0.out; omega
    · have := Q1.out; omega
    · have := Q2.out; omega
    · have := Q3.out; omega
    · have := Q4.out; omega
  clear hone Q0 Q1 Q2 Q3 Q4 Hcx Hcy
  go_wp2_with (refine wpList_storeBlk2 rfl 39 _ _ rfl (w.heap.size + 1 + 1) 0 5 rfl #[.int .u64 ((z0 + 19 * o4) % 2251799813685248), .int .u64 (z1 + (z0 + 19 * o4) / 2251799813685248), .int .u64 z2, .int .u64 z3, .int .u64 z4] rfl 39 _ Hb30.out info28 rfl (by simp) Hone.out ?_; intro wz hbz huz hzz)
  rw [splice_all _ _ 5 rfl rfl] at hbz
  exact bodyPost_ret (v := .agg #[.int .u64 ((z0 + 19 * o4) % 2251799813685248), .int .u64 (z1 + (z0 + 19 * o4) / 2251799813685248), .int .u64 z2, .int .u64 z3, .int .u64 z4]) (results_cell_row (fn := Tryd.f44) (p := 4) (ty := 39) rfl _ _ (w.heap.size + 1 + 1) 39 #[.int .u64 ((z0 + 19 * o4) % 2251799813685248), .int .u64 (z1 + (z0 + 19 * o4) / 2251799813685248), .int .u64 z2, .int .u64 z3, .int .u64 z4] (0, 0) _ rfl hbz Tryd.underlying39 rfl info28) rfl ⟨_, _, _, _, _, Hf.out, rfl, Hu30.out.step huz (fun i hi h => by omega)⟩
end Go.Proofs.YtdpafemcpbhlfaaDoor
