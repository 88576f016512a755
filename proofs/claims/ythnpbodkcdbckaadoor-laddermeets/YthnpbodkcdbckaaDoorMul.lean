/-
  The walk of Mul.
-/
import Derived.Test.YthnpbodkcdbckaaDoorWide
import Derived.Test.YthnpbodkcdbckaaDoorMulMath
namespace Go.Proofs.YthnpbodkcdbckaaDoor
set_option maxRecDepth 100000
open Go.RowKit

theorem info28 : (Tryd.prog.info? 39).map (·.size) = some 5 := by kernel_rfl
set_option maxRecDepth 100000 in
set_option maxHeartbeats 4000000 in
theorem mul_any (x0 x1 x2 x3 x4 y0 y1 y2 y3 y4 m n : Int) (w : World) (hx : Fits x0 x1 x2 x3 x4 m) (hy : Fits y0 y1 y2 y3 y4 n) :
    Calls Tryd.prog 44 #[.agg #[.int .u64 x0, .int .u64 x1, .int .u64 x2, .int .u64 x3, .int .u64 x4], .agg #[.int .u64 y0, .int .u64 y1, .int .u64 y2, .int .u64 y3, .int .u64 y4]] w (RetE (m * n) w) := by
  obtain ⟨a0, c0, a1, c1, a2, c2, a3, c3, a4, c4, hcx⟩ := hx
  obtain ⟨b0, d0, b1, d1, b2, d2, b3, d3, b4, d4, hcy⟩ := hy
  have Hcx := Lib.hid hcx
  have Hcy := Lib.hid hcy
  clear hcx hcy
  have HB0 := Lib.hid (And.intro (mul_bd (a := x0) (b := y0) (A := 4503599627370496) (B := 4503599627370496) (C := 20282409603651670423947251286016) a0 (by omega) b0 (by omega) (by decide)) (And.intro (mul_bd (a := x1) (b := (19 * y4)) (A := 4503599627370496) (B := 144115188075855872) (C := 649037107316853453566312041152512) a1 (by omega) (by omega) (by omega) (by decide)) (And.intro (mul_bd (a := x2) (b := (19 * y3)) (A := 4503599627370496) (B := 144115188075855872) (C := 649037107316853453566312041152512) a2 (by omega) (by omega) (by omega) (by decide)) (And.intro (mul_bd (a := x3) (b := (19 * y2)) (A := 4503599627370496) (B := 144115188075855872) (C := 649037107316853453566312041152512) a3 (by omega) (by omega) (by omega) (by decide)) (mul_bd (a := x4) (b := (19 * y1)) (A := 4503599627370496) (B := 144115188075855872) (C := 649037107316853453566312041152512) a4 (by omega) (by omega) (by omega) (by decide))))))
  have HB1 := Lib.hid (And.intro (mul_bd (a := x0) (b := y1) (A := 4503599627370496) (B := 4503599627370496) (C := 20282409603651670423947251286016) a0 (by omega) b1 (by omega) (by decide)) (And.intro (mul_bd (a := x1) (b := y0) (A := 4503599627370496) (B := 4503599627370496) (C := 20282409603651670423947251286016) a1 (by omega) b0 (by omega) (by decide)) (And.intro (mul_bd (a := x2) (b := (19 * y4)) (A := 4503599627370496) (B := 144115188075855872) (C := 649037107316853453566312041152512) a2 (by omega) (by omega) (by omega) (by decide)) (And.intro (mul_bd (a := x3) (b := (19 * y3)) (A := 4503599627370496) (B := 144115188075855872) (C := 649037107316853453566312041152512) a3 (by omega) (by omega) (by omega) (by decide)) (mul_bd (a := x4) (b := (19 * y2)) (A := 4503599627370496) (B := 144115188075855872) (C := 649037107316853453566312041152512) a4 (by omega) (by omega) (by omega) (by decide))))))
  have HB2 := Lib.hid (And.intro (mul_bd (a := x0) (b := y2) (A := 4503599627370496) (B := 4503599627370496) (C := 20282409603651670423947251286016) a0 (by omega) b2 (by omega) (by decide)) (And.intro (mul_bd (a := x1) (b := y1) (A := 4503599627370496) (B := 4503599627370496) (C := 20282409603651670423947251286016) a1 (by omega) b1 (by omega) (by decide)) (And.intro (mul_bd (a := x2) (b := y0) (A := 4503599627370496) (B := 4503599627370496) (C := 20282409603651670423947251286016) a2 (by omega) b0 (by omega) (by decide)) (And.intro (mul_bd (a := x3) (b := (19 * y4)) (A := 4503599627370496) (B := 144115188075855872) (C := 649037107316853453566312041152512) a3 (by omega) (by omega) (by omega) (by decide)) (mul_bd (a := x4) (b := (19 * y3)) (A := 4503599627370496) (B := 144115188075855872) (C := 649037107316853453566312041152512) a4 (by omega) (by omega) (by omega) (by decide))))))
  have HB3 := Lib.hid (And.intro (mul_bd (a := x0) (b := y3) (A := 4503599627370496) (B := 4503599627370496) (C := 20282409603651670423947251286016) a0 (by omega) b3 (by omega) (by decide)) (And.intro (mul_bd (a := x1) (b := y2) (A := 4503599627370496) (B := 4503599627370496) (C := 20282409603651670423947251286016) a1 (by omega) b2 (by omega) (by decide)) (And.intro (mul_bd (a := x2) (b := y1) (A := 4503599627370496) (B := 4503599627370496) (C := 20282409603651670423947251286016) a2 (by omega) b1 (by omega) (by decide)) (And.intro (mul_bd (a := x3) (b := y0) (A := 4503599627370496) (B := 4503599627370496) (C := 20282409603651670423947251286016) a3 (by omega) b0 (by omega) (by decide)) (mul_bd (a := x4) (b := (19 * y4)) (A := 4503599627370496) (B := 144115188075855872) (C := 649037107316853453566312041152512) a4 (by omega) (by omega) (by omega) (by decide))))))
  have HB4 := Lib.hid (And.intro (mul_bd (a := x0) (b := y4) (A := 4503599627370496) (B := 4503599627370496) (C := 20282409603651670423947251286016) a0 (by omega) b4 (by omega) (by decide)) (And.intro (mul_bd (a := x1) (b := y3) (A := 4503599627370496) (B := 4503599627370496) (C := 20282409603651670423947251286016) a1 (by omega) b3 (by omega) (by decide)) (And.intro (mul_bd (a := x2) (b := y2) (A := 4503599627370496) (B := 4503599627370496) (C := 20282409603651670423947251286016) a2 (by omega) b2 (by omega) (by decide)) (And.intro (mul_bd (a := x3) (b := y1) (A := 4503599627370496) (B := 4503599627370496) (C := 20282409603651670423947251286016) a3 (by omega) b1 (by omega) (by decide)) (mul_bd (a := x4) (b := y0) (A := 4503599627370496) (B := 4503599627370496) (C := 20282409603651670423947251286016) a4 (by omega) b0 (by omega) (by decide))))))
  go_enter Tryd.func44, Tryd.ntmps44
  go_wp2
  go_quiet (fail)
  go_wp2
  go_quiet (fail)
  have hblk : Blk ((((w.alloc (.cells #[.int .u64 x0, .int .u64 x1, .int .u64 x2, .int .u64 x3, .int .u64 x4] 39)).alloc (.cells #[.int .u64 y0, .int .u64 y1, .int .u64 y2, .int .u64 y3, .int .u64 y4] 39)).alloc (.cells #[.int .u64 0, .int .u64 0, .int .u64 0, .int .u64 0, .int .u64 0] 39))) (w.heap.size + 1 + 1) 39 #[.int .u64 0, .int .u64 0, .int .u64 0, .int .u64 0, .int .u64 0] := by
    have := Blk.new ((w.alloc (.cells #[.int .u64 x0, .int .u64 x1, .int .u64 x2, .int .u64 x3, .int .u64 x4] 39)).alloc (.cells #[.int .u64 y0, .int .u64 y1, .int .u64 y2, .int .u64 y3, .int .u64 y4] 39)) #[.int .u64 0, .int .u64 0, .int .u64 0, .int .u64 0, .int .u64 0] 39
    simpa using this
  go_wp2_with fail
  refine (plus_any 0 0 x0 y0 (0) _ (by omega) (by omega) (by omega) (by decide) a0 (by omega) b0 (by omega) (by have := HB0.out; omega)).mono ?_
  rintro e w1 ⟨hi1, lo1, pa1, pb1, pc1, hE, rfl, hu⟩
  have Hu1 := Lib.hid ((((((Upd.refl (fun _ => False) w).alloc _).alloc _).alloc _).drewN _).trans hu)
  have Hb1 := Lib.hid (hu.blk (hblk.drewN _) (fun h => h))
  clear hblk
  have HE1 := Lib.hid hE
  clear hE hu
  go_wp2_with fail
  refine (plus_any hi1 lo1 x1 (19 * y4) (0 + x0 * y0) _ pa1 pb1 pc1 HE1.out a1 (by omega) (by omega) (by omega) (by have := HB0.out; omega)).mono ?_
  rintro e w2 ⟨hi2, lo2, pa2, pb2, pc2, hE, rfl, hu⟩
  have Hu2 := Lib.hid (Hu1.out.trans hu)
  have Hb2 := Lib.hid (hu.blk Hb1.out (fun h => h))
  clear Hu1 Hb1
  have HE2 := Lib.hid hE
  clear hE hu
  clear HE1 pa1 pb1 pc1
  go_wp2_with fail
  refine (plus_any hi2 lo2 x2 (19 * y3) (0 + x0 * y0 + x1 * (19 * y4)) _ pa2 pb2 pc2 HE2.out a2 (by omega) (by omega) (by omega) (by have := HB0.out; omega)).mono ?_
  rintro e w3 ⟨hi3, lo3, pa3, pb3, pc3, hE, rfl, hu⟩
  have Hu3 := Lib.hid (Hu2.out.trans hu)
  have Hb3 := Lib.hid (hu.blk Hb2.out (fun h => h))
  clear Hu2 Hb2
  have HE3 := Lib.hid hE
  clear hE hu
  clear HE2 pa2 pb2 pc2
  go_wp2_with fail
  refine (plus_any hi3 lo3 x3 (19 * y2) (0 + x0 * y0 + x1 * (19 * y4) + x2 * (19 * y3)) _ pa3 pb3 pc3 HE3.out a3 (by omega) (by omega) (by omega) (by have := HB0.out; omega)).mono ?_
  rintro e w4 ⟨hi4, lo4, pa4, pb4, pc4, hE, rfl, hu⟩
  have Hu4 := Lib.hid (Hu3.out.trans hu)
  have Hb4 := Lib.hid (hu.blk Hb3.out (fun h => h))
  clear Hu3 Hb3
  have HE4 := Lib.hid hE
  clear hE hu
  clear HE3 pa3 pb3 pc3
  go_wp2_with fail
  refine (plus_any hi4 lo4 x4 (19 * y1) (0 + x0 * y0 + x1 * (19 * y4) + x2 * (19 * y3) + x3 * (19 * y2)) _ pa4 pb4 pc4 HE4.out a4 (by omega) (by omega) (by omega) (by have := HB0.out; omega)).mono ?_
  rintro e w5 ⟨hi5, lo5, pa5, pb5, pc5, hE, rfl, hu⟩
  have Hu5 := Lib.hid (Hu4.out.trans hu)
  have Hb5 := Lib.hid (hu.blk Hb4.out (fun h => h))
  clear Hu4 Hb4
  have HE5 := Lib.hid hE
  clear hE hu
  clear HE4 pa4 pb4 pc4
  go_wp2_with fail
  refine (cut_any hi5 lo5 0 (0 + x0 * y0 + x1 * (19 * y4) + x2 * (19 * y3) + x3 * (19 * y2) + x4 * (19 * y1)) _ pa5 pb5 pc5 HE5.out (by omega) (by omega) (by have := HB0.out; omega)).mono ?_
  rintro e w6 ⟨rfl, hu⟩
  have Hu6 := Lib.hid (Hu5.out.trans hu)
  have Hb6 := Lib.hid (hu.blk Hb5.out (fun h => h))
  clear Hu5 Hb5 HE5 pa5 pb5 pc5 hu
  have q0 := Int.mul_ediv_add_emod (0 + x0 * y0 + x1 * (19 * y4) + x2 * (19 * y3) + x3 * (19 * y2) + x4 * (19 * y1) + 0) 2251799813685248
  have z0l := Int.emod_nonneg (0 + x0 * y0 + x1 * (19 * y4) + x2 * (19 * y3) + x3 * (19 * y2) + x4 * (19 * y1) + 0) (b := 2251799813685248) (by omega)
  have z0u := Int.emod_lt_of_pos (0 + x0 * y0 + x1 * (19 * y4) + x2 * (19 * y3) + x3 * (19 * y2) + x4 * (19 * y1) + 0) (b := 2251799813685248) (by omega)
  generalize (0 + x0 * y0 + x1 * (19 * y4) + x2 * (19 * y3) + x3 * (19 * y2) + x4 * (19 * y1) + 0) % 2251799813685248 = z0 at *
  generalize (0 + x0 * y0 + x1 * (19 * y4) + x2 * (19 * y3) + x3 * (19 * y2) + x4 * (19 * y1) + 0) / 2251799813685248 = o0 at *
  have o0l : 0 ≤ o0 := by have := HB0.out; omega
  have o0u : o0 < 18446744073709551616 := by have := HB0.out; omega
  have Q0 := Lib.hid q0
  clear q0 HB0
  go_wp2_with fail
  refine (plus_any 0 0 x0 y1 (0) _ (by omega) (by omega) (by omega) (by decide) a0 (by omega) b1 (by omega) (by have := HB1.out; omega)).mono ?_
  rintro e w7 ⟨hi7, lo7, pa7, pb7, pc7, hE, rfl, hu⟩
  have Hu7 := Lib.hid (Hu6.out.trans hu)
  have Hb7 := Lib.hid (hu.blk Hb6.out (fun h => h))
  clear Hu6 Hb6
  have HE7 := Lib.hid hE
  clear hE hu
  go_wp2_with fail
  refine (plus_any hi7 lo7 x1 y0 (0 + x0 * y1) _ pa7 pb7 pc7 HE7.out a1 (by omega) b0 (by omega) (by have := HB1.out; omega)).mono ?_
  rintro e w8 ⟨hi8, lo8, pa8, pb8, pc8, hE, rfl, hu⟩
  have Hu8 := Lib.hid (Hu7.out.trans hu)
  have Hb8 := Lib.hid (hu.blk Hb7.out (fun h => h))
  clear Hu7 Hb7
  have HE8 := Lib.hid hE
  clear hE hu
  clear HE7 pa7 pb7 pc7
  go_wp2_with fail
  refine (plus_any hi8 lo8 x2 (19 * y4) (0 + x0 * y1 + x1 * y0) _ pa8 pb8 pc8 HE8.out a2 (by omega) (by omega) (by omega) (by have := HB1.out; omega)).mono ?_
  rintro e w9 ⟨hi9, lo9, pa9, pb9, pc9, hE, rfl, hu⟩
  have Hu9 := Lib.hid (Hu8.out.trans hu)
  have Hb9 := Lib.hid (hu.blk Hb8.out (fun h => h))
  clear Hu8 Hb8
  have HE9 := Lib.hid hE
  clear hE hu
  clear HE8 pa8 pb8 pc8
  go_wp2_with fail
  refine (plus_any hi9 lo9 x3 (19 * y3) (0 + x0 * y1 + x1 * y0 + x2 * (19 * y4)) _ pa9 pb9 pc9 HE9.out a3 (by omega) (by omega) (by omega) (by have := HB1.out; omega)).mono ?_
  rintro e w10 ⟨hi10, lo10, pa10, pb10, pc10, hE, rfl, hu⟩
  have Hu10 := Lib.hid (Hu9.out.trans hu)
  have Hb10 := Lib.hid (hu.blk Hb9.out (fun h => h))
  clear Hu9 Hb9
  have HE10 := Lib.hid hE
  clear hE hu
  clear HE9 pa9 pb9 pc9
  go_wp2_with fail
  refine (plus_any hi10 lo10 x4 (19 * y2) (0 + x0 * y1 + x1 * y0 + x2 * (19 * y4) + x3 * (19 * y3)) _ pa10 pb10 pc10 HE10.out a4 (by omega) (by omega) (by omega) (by have := HB1.out; omega)).mono ?_
  rintro e w11 ⟨hi11, lo11, pa11, pb11, pc11, hE, rfl, hu⟩
  have Hu11 := Lib.hid (Hu10.out.trans hu)
  have Hb11 := Lib.hid (hu.blk Hb10.out (fun h => h))
  clear Hu10 Hb10
  have HE11 := Lib.hid hE
  clear hE hu
  clear HE10 pa10 pb10 pc10
  go_wp2_with fail
  refine (cut_any hi11 lo11 o0 (0 + x0 * y1 + x1 * y0 + x2 * (19 * y4) + x3 * (19 * y3) + x4 * (19 * y2)) _ pa11 pb11 pc11 HE11.out o0l o0u (by have := HB1.out; have := o0u; omega)).mono ?_
  rintro e w12 ⟨rfl, hu⟩
  have Hu12 := Lib.hid (Hu11.out.trans hu)
  have Hb12 := Lib.hid (hu.blk Hb11.out (fun h => h))
  clear Hu11 Hb11 HE11 pa11 pb11 pc11 hu
  have q1 := Int.mul_ediv_add_emod (0 + x0 * y1 + x1 * y0 + x2 * (19 * y4) + x3 * (19 * y3) + x4 * (19 * y2) + o0) 2251799813685248
  have z1l := Int.emod_nonneg (0 + x0 * y1 + x1 * y0 + x2 * (19 * y4) + x3 * (19 * y3) + x4 * (19 * y2) + o0) (b := 2251799813685248) (by omega)
  have z1u := Int.emod_lt_of_pos (0 + x0 * y1 + x1 * y0 + x2 * (19 * y4) + x3 * (19 * y3) + x4 * (19 * y2) + o0) (b := 2251799813685248) (by omega)
  generalize (0 + x0 * y1 + x1 * y0 + x2 * (19 * y4) + x3 * (19 * y3) + x4 * (19 * y2) + o0) % 2251799813685248 = z1 at *
  generalize (0 + x0 * y1 + x1 * y0 + x2 * (19 * y4) + x3 * (19 * y3) + x4 * (19 * y2) + o0) / 2251799813685248 = o1 at *
  have o1l : 0 ≤ o1 := by have := HB1.out; omega
  have o1u : o1 < 18446744073709551616 := by have := HB1.out; omega
  have Q1 := Lib.hid q1
  clear q1 HB1
  go_wp2_with fail
  refine (plus_any 0 0 x0 y2 (0) _ (by omega) (by omega) (by omega) (by decide) a0 (by omega) b2 (by omega) (by have := HB2.out; omega)).mono ?_
  rintro e w13 ⟨hi13, lo13, pa13, pb13, pc13, hE, rfl, hu⟩
  have Hu13 := Lib.hid (Hu12.out.trans hu)
  have Hb13 := Lib.hid (hu.blk Hb12.out (fun h => h))
  clear Hu12 Hb12
  have HE13 := Lib.hid hE
  clear hE hu
  go_wp2_with fail
  refine (plus_any hi13 lo13 x1 y1 (0 + x0 * y2) _ pa13 pb13 pc13 HE13.out a1 (by omega) b1 (by omega) (by have := HB2.out; omega)).mono ?_
  rintro e w14 ⟨hi14, lo14, pa14, pb14, pc14, hE, rfl, hu⟩
  have Hu14 := Lib.hid (Hu13.out.trans hu)
  have Hb14 := Lib.hid (hu.blk Hb13.out (fun h => h))
  clear Hu13 Hb13
  have HE14 := Lib.hid hE
  clear hE hu
  clear HE13 pa13 pb13 pc13
  go_wp2_with fail
  refine (plus_any hi14 lo14 x2 y0 (0 + x0 * y2 + x1 * y1) _ pa14 pb14 pc14 HE14.out a2 (by omega) b0 (by omega) (by have := HB2.out; omega)).mono ?_
  rintro e w15 ⟨hi15, lo15, pa15, pb15, pc15, hE, rfl, hu⟩
  have Hu15 := Lib.hid (Hu14.out.trans hu)
  have Hb15 := Lib.hid (hu.blk Hb14.out (fun h => h))
  clear Hu14 Hb14
  have HE15 := Lib.hid hE
  clear hE hu
  clear HE14 pa14 pb14 pc14
  go_wp2_with fail
  refine (plus_any hi15 lo15 x3 (19 * y4) (0 + x0 * y2 + x1 * y1 + x2 * y0) _ pa15 pb15 pc15 HE15.out a3 (by omega) (by omega) (by omega) (by have := HB2.out; omega)).mono ?_
  rintro e w16 ⟨hi16, lo16, pa16, pb16, pc16, hE, rfl, hu⟩
  have Hu16 := Lib.hid (Hu15.out.trans hu)
  have Hb16 := Lib.hid (hu.blk Hb15.out (fun h => h))
  clear Hu15 Hb15
  have HE16 := Lib.hid hE
  clear hE hu
  clear HE15 pa15 pb15 pc15
  go_wp2_with fail
  refine (plus_any hi16 lo16 x4 (19 * y3) (0 + x0 * y2 + x1 * y1 + x2 * y0 + x3 * (19 * y4)) _ pa16 pb16 pc16 HE16.out a4 (by omega) (by omega) (by omega) (by have := HB2.out; omega)).mono ?_
  rintro e w17 ⟨hi17, lo17, pa17, pb17, pc17, hE, rfl, hu⟩
  have Hu17 := Lib.hid (Hu16.out.trans hu)
  have Hb17 := Lib.hid (hu.blk Hb16.out (fun h => h))
  clear Hu16 Hb16
  have HE17 := Lib.hid hE
  clear hE hu
  clear HE16 pa16 pb16 pc16
  go_wp2_with fail
  refine (cut_any hi17 lo17 o1 (0 + x0 * y2 + x1 * y1 + x2 * y0 + x3 * (19 * y4) + x4 * (19 * y3)) _ pa17 pb17 pc17 HE17.out o1l o1u (by have := HB2.out; have := o1u; omega)).mono ?_
  rintro e w18 ⟨rfl, hu⟩
  have Hu18 := Lib.hid (Hu17.out.trans hu)
  have Hb18 := Lib.hid (hu.blk Hb17.out (fun h => h))
  clear Hu17 Hb17 HE17 pa17 pb17 pc17 hu
  have q2 := Int.mul_ediv_add_emod (0 + x0 * y2 + x1 * y1 + x2 * y0 + x3 * (19 * y4) + x4 * (19 * y3) + o1) 2251799813685248
  have z2l := Int.emod_nonneg (0 + x0 * y2 + x1 * y1 + x2 * y0 + x3 * (19 * y4) + x4 * (19 * y3) + o1) (b := 2251799813685248) (by omega)
  have z2u := Int.emod_lt_of_pos (0 + x0 * y2 + x1 * y1 + x2 * y0 + x3 * (19 * y4) + x4 * (19 * y3) + o1) (b := 2251799813685248) (by omega)
  generalize (0 + x0 * y2 + x1 * y1 + x2 * y0 + x3 * (19 * y4) + x4 * (19 * y3) + o1) % 2251799813685248 = z2 at *
  generalize (0 + x0 * y2 + x1 * y1 + x2 * y0 + x3 * (19 * y4) + x4 * (19 * y3) + o1) / 2251799813685248 = o2 at *
  have o2l : 0 ≤ o2 := by have := HB2.out; omega
  have o2u : o2 < 18446744073709551616 := by have := HB2.out; omega
  have Q2 := Lib.hid q2
  clear q2 HB2
  go_wp2_with fail
  refine (plus_any 0 0 x0 y3 (0) _ (by omega) (by omega) (by omega) (by decide) a0 (by omega) b3 (by omega) (by have := HB3.out; omega)).mono ?_
  rintro e w19 ⟨hi19, lo19, pa19, pb19, pc19, hE, rfl, hu⟩
  have Hu19 := Lib.hid (Hu18.out.trans hu)
  have Hb19 := Lib.hid (hu.blk Hb18.out (fun h => h))
  clear Hu18 Hb18
  have HE19 := Lib.hid hE
  clear hE hu
  go_wp2_with fail
  refine (plus_any hi19 lo19 x1 y2 (0 + x0 * y3) _ pa19 pb19 pc19 HE19.out a1 (by omega) b2 (by omega) (by have := HB3.out; omega)).mono ?_
  rintro e w20 ⟨hi20, lo20, pa20, pb20, pc20, hE, rfl, hu⟩
  have Hu20 := Lib.hid (Hu19.out.trans hu)
  have Hb20 := Lib.hid (hu.blk Hb19.out (fun h => h))
  clear Hu19 Hb19
  have HE20 := Lib.hid hE
  clear hE hu
  clear HE19 pa19 pb19 pc19
  go_wp2_with fail
  refine (plus_any hi20 lo20 x2 y1 (0 + x0 * y3 + x1 * y2) _ pa20 pb20 pc20 HE20.out a2 (by omega) b1 (by omega) (by have := HB3.out; omega)).mono ?_
  rintro e w21 ⟨hi21, lo21, pa21, pb21, pc21, hE, rfl, hu⟩
  have Hu21 := Lib.hid (Hu20.out.trans hu)
  have Hb21 := Lib.hid (hu.blk Hb20.out (fun h => h))
  clear Hu20 Hb20
  have HE21 := Lib.hid hE
  clear hE hu
  clear HE20 pa20 pb20 pc20
  go_wp2_with fail
  refine (plus_any hi21 lo21 x3 y0 (0 + x0 * y3 + x1 * y2 + x2 * y1) _ pa21 pb21 pc21 HE21.out a3 (by omega) b0 (by omega) (by have := HB3.out; omega)).mono ?_
  rintro e w22 ⟨hi22, lo22, pa22, pb22, pc22, hE, rfl, hu⟩
  have Hu22 := Lib.hid (Hu21.out.trans hu)
  have Hb22 := Lib.hid (hu.blk Hb21.out (fun h => h))
  clear Hu21 Hb21
  have HE22 := Lib.hid hE
  clear hE hu
  clear HE21 pa21 pb21 pc21
  go_wp2_with fail
  refine (plus_any hi22 lo22 x4 (19 * y4) (0 + x0 * y3 + x1 * y2 + x2 * y1 + x3 * y0) _ pa22 pb22 pc22 HE22.out a4 (by omega) (by omega) (by omega) (by have := HB3.out; omega)).mono ?_
  rintro e w23 ⟨hi23, lo23, pa23, pb23, pc23, hE, rfl, hu⟩
  have Hu23 := Lib.hid (Hu22.out.trans hu)
  have Hb23 := Lib.hid (hu.blk Hb22.out (fun h => h))
  clear Hu22 Hb22
  have HE23 := Lib.hid hE
  clear hE hu
  clear HE22 pa22 pb22 pc22
  go_wp2_with fail
  refine (cut_any hi23 lo23 o2 (0 + x0 * y3 + x1 * y2 + x2 * y1 + x3 * y0 + x4 * (19 * y4)) _ pa23 pb23 pc23 HE23.out o2l o2u (by have := HB3.out; have := o2u; omega)).mono ?_
  rintro e w24 ⟨rfl, hu⟩
  have Hu24 := Lib.hid (Hu23.out.trans hu)
  have Hb24 := Lib.hid (hu.blk Hb23.out (fun h => h))
  clear Hu23 Hb23 HE23 pa23 pb23 pc23 hu
  have q3 := Int.mul_ediv_add_emod (0 + x0 * y3 + x1 * y2 + x2 * y1 + x3 * y0 + x4 * (19 * y4) + o2) 2251799813685248
  have z3l := Int.emod_nonneg (0 + x0 * y3 + x1 * y2 + x2 * y1 + x3 * y0 + x4 * (19 * y4) + o2) (b := 2251799813685248) (by omega)
  have z3u := Int.emod_lt_of_pos (0 + x0 * y3 + x1 * y2 + x2 * y1 + x3 * y0 + x4 * (19 * y4) + o2) (b := 2251799813685248) (by omega)
  generalize (0 + x0 * y3 + x1 * y2 + x2 * y1 + x3 * y0 + x4 * (19 * y4) + o2) % 2251799813685248 = z3 at *
  generalize (0 + x0 * y3 + x1 * y2 + x2 * y1 + x3 * y0 + x4 * (19 * y4) + o2) / 2251799813685248 = o3 at *
  have o3l : 0 ≤ o3 := by have := HB3.out; omega
  have o3u : o3 < 18446744073709551616 := by have := HB3.out; omega
  have Q3 := Lib.hid q3
  clear q3 HB3
  go_wp2_with fail
  refine (plus_any 0 0 x0 y4 (0) _ (by omega) (by omega) (by omega) (by decide) a0 (by omega) b4 (by omega) (by have := HB4.out; omega)).mono ?_
  rintro e w25 ⟨hi25, lo25, pa25, pb25, pc25, hE, rfl, hu⟩
  have Hu25 := Lib.hid (Hu24.out.trans hu)
  have Hb25 := Lib.hid (hu.blk Hb24.out (fun h => h))
  clear Hu24 Hb24
  have HE25 := Lib.hid hE
  clear hE hu
  go_wp2_with fail
  refine (plus_any hi25 lo25 x1 y3 (0 + x0 * y4) _ pa25 pb25 pc25 HE25.out a1 (by omega) b3 (by omega) (by have := HB4.out; omega)).mono ?_
  rintro e w26 ⟨hi26, lo26, pa26, pb26, pc26, hE, rfl, hu⟩
  have Hu26 := Lib.hid (Hu25.out.trans hu)
  have Hb26 := Lib.hid (hu.blk Hb25.out (fun h => h))
  clear Hu25 Hb25
  have HE26 := Lib.hid hE
  clear hE hu
  clear HE25 pa25 pb25 pc25
  go_wp2_with fail
  refine (plus_any hi26 lo26 x2 y2 (0 + x0 * y4 + x1 * y3) _ pa26 pb26 pc26 HE26.out a2 (by omega) b2 (by omega) (by have := HB4.out; omega)).mono ?_
  rintro e w27 ⟨hi27, lo27, pa27, pb27, pc27, hE, rfl, hu⟩
  have Hu27 := Lib.hid (Hu26.out.trans hu)
  have Hb27 := Lib.hid (hu.blk Hb26.out (fun h => h))
  clear Hu26 Hb26
  have HE27 := Lib.hid hE
  clear hE hu
  clear HE26 pa26 pb26 pc26
  go_wp2_with fail
  refine (plus_any hi27 lo27 x3 y1 (0 + x0 * y4 + x1 * y3 + x2 * y2) _ pa27 pb27 pc27 HE27.out a3 (by omega) b1 (by omega) (by have := HB4.out; omega)).mono ?_
  rintro e w28 ⟨hi28, lo28, pa28, pb28, pc28, hE, rfl, hu⟩
  have Hu28 := Lib.hid (Hu27.out.trans hu)
  have Hb28 := Lib.hid (hu.blk Hb27.out (fun h => h))
  clear Hu27 Hb27
  have HE28 := Lib.hid hE
  clear hE hu
  clear HE27 pa27 pb27 pc27
  go_wp2_with fail
  refine (plus_any hi28 lo28 x4 y0 (0 + x0 * y4 + x1 * y3 + x2 * y2 + x3 * y1) _ pa28 pb28 pc28 HE28.out a4 (by omega) b0 (by omega) (by have := HB4.out; omega)).mono ?_
  rintro e w29 ⟨hi29, lo29, pa29, pb29, pc29, hE, rfl, hu⟩
  have Hu29 := Lib.hid (Hu28.out.trans hu)
  have Hb29 := Lib.hid (hu.blk Hb28.out (fun h => h))
  clear Hu28 Hb28
  have HE29 := Lib.hid hE
  clear hE hu
  clear HE28 pa28 pb28 pc28
  go_wp2_with fail
  refine (cut_any hi29 lo29 o3 (0 + x0 * y4 + x1 * y3 + x2 * y2 + x3 * y1 + x4 * y0) _ pa29 pb29 pc29 HE29.out o3l o3u (by have := HB4.out; have := o3u; omega)).mono ?_
  rintro e w30 ⟨rfl, hu⟩
  have Hu30 := Lib.hid (Hu29.out.trans hu)
  have Hb30 := Lib.hid (hu.blk Hb29.out (fun h => h))
  clear Hu29 Hb29 HE29 pa29 pb29 pc29 hu
  have q4 := Int.mul_ediv_add_emod (0 + x0 * y4 + x1 * y3 + x2 * y2 + x3 * y1 + x4 * y0 + o3) 2251799813685248
  have z4l := Int.emod_nonneg (0 + x0 * y4 + x1 * y3 + x2 * y2 + x3 * y1 + x4 * y0 + o3) (b := 2251799813685248) (by omega)
  have z4u := Int.emod_lt_of_pos (0 + x0 * y4 + x1 * y3 + x2 * y2 + x3 * y1 + x4 * y0 + o3) (b := 2251799813685248) (by omega)
  generalize (0 + x0 * y4 + x1 * y3 + x2 * y2 + x3 * y1 + x4 * y0 + o3) % 2251799813685248 = z4 at *
  generalize (0 + x0 * y4 + x1 * y3 + x2 * y2 + x3 * y1 + x4 * y0 + o3) / 2251799813685248 = o4 at *
  have o4l : 0 ≤ o4 := by have := HB4.out; omega
  have o4u : o4 < 144115188075855872 := by have := HB4.out; omega
  have Q4 := Lib.hid q4
  clear q4 HB4
  have m0 := and_mask (z0 + 19 * o4) (by omega) (by omega)
  have hone : ∀ v ∈ (#[.int .u64 ((z0 + 19 * o4) % 2251799813685248), .int .u64 (z1 + (z0 + 19 * o4) / 2251799813685248), .int .u64 z2, .int .u64 z3, .int .u64 z4] : Array Value).toList, v.oneCell' = true := by
    intro v hv; simp at hv; rcases hv with rfl | rfl | rfl | rfl | rfl <;> rfl
  have Hone := Lib.hid hone
  have Hf : Hid (Fits ((z0 + 19 * o4) % 2251799813685248) (z1 + (z0 + 19 * o4) / 2251799813685248) z2 z3 z4 (m * n)) := by
    refine ⟨by omega, by omega, by omega, by omega, by omega, by omega, by omega, by omega, by omega, by omega, ?_⟩
    refine Cong.trans (mul_cong x0 x1 x2 x3 x4 y0 y1 y2 y3 y4 z0 z1 z2 z3 z4 o0 o1 o2 o3 o4 ?_ ?_ ?_ ?_ ?_) (Cong.mul Hcx.out Hcy.out)
    · have := Q0.out; omega
    · have := Q1.out; omega
    · have := Q2.out; omega
    · have := Q3.out; omega
    · have := Q4.out; omega
  clear hone Q0 Q1 Q2 Q3 Q4 Hcx Hcy
  go_wp2_with (refine wpList_storeBlk2 rfl 39 _ _ rfl (w.heap.size + 1 + 1) 0 5 rfl #[.int .u64 ((z0 + 19 * o4) % 2251799813685248), .int .u64 (z1 + (z0 + 19 * o4) / 2251799813685248), .int .u64 z2, .int .u64 z3, .int .u64 z4] rfl 39 _ Hb30.out info28 rfl (by simp) Hone.out ?_; intro wz hbz huz hzz)
  rw [splice_all _ _ 5 rfl rfl] at hbz
  exact bodyPost_ret (v := .agg #[.int .u64 ((z0 + 19 * o4) % 2251799813685248), .int .u64 (z1 + (z0 + 19 * o4) / 2251799813685248), .int .u64 z2, .int .u64 z3, .int .u64 z4]) (results_cell_row (fn := Tryd.f44) (p := 4) (ty := 39) rfl _ _ (w.heap.size + 1 + 1) 39 #[.int .u64 ((z0 + 19 * o4) % 2251799813685248), .int .u64 (z1 + (z0 + 19 * o4) / 2251799813685248), .int .u64 z2, .int .u64 z3, .int .u64 z4] (0, 0) _ rfl hbz Tryd.underlying39 rfl info28) rfl ⟨_, _, _, _, _, Hf.out, rfl, Hu30.out.step huz (fun i hi h => by omega)⟩
end Go.Proofs.YthnpbodkcdbckaaDoor
