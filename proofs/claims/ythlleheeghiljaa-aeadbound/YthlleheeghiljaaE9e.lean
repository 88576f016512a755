/-
  poly: five digits as a number; sums and products modulo 2^130 - 5. No program.
-/
/-
  poly: blocks as numbers, all blocks, the least number, the tag. No program.
-/
/-
  poly: the least number, the tag: the program's sum is the reference's. No program.
-/
import Derived.Test.YthlleheeghiljaaP4m
import Derived.Test.YthlleheeghiljaaE9b
import Derived.Test.YthlleheeghiljaaP7w
import Derived.Test.YthlleheeghiljaaS9
namespace Go.Proofs.Ythlleheeghiljaa
open Go.RowKit
set_option maxRecDepth 100000

def num5 (a b c d e : Int) : Int := a + 67108864 * b + 4503599627370496 * c + 302231454903657293676544 * d + 20282409603651670423947251286016 * e
theorem w6_in {x : Int} (h0 : 0 ≤ x) (h1 : x < 18446744073709551616) : w6 x = x := by unfold w6; rw [wU64]; omega
theorem m26_eq {x : Int} (h0 : 0 ≤ x) (h1 : x < 18446744073709551616) : m26 x = x % 67108864 := by
  have := bits_mask .u64 64 (by decide) (fun n h0 h1 => by rw [wU64]; omega) 26 (by decide) x h0 (by omega)
  rw [show (2 ^ 26 - 1 : Int) = 67108863 by decide, show (2 : Int) ^ 26 = 67108864 by decide] at this
  exact this
theorem s26_eq {x : Int} (_h0 : 0 ≤ x) : s26 x = x / 67108864 := by
  unfold s26 sShr
  rw [show (2 : Int) ^ min (26 : Int).toNat (IntKind.bits .u64) = 67108864 by decide, Int.fdiv_eq_ediv_of_nonneg _ (by omega)]
theorem dm (x : Int) : ∃ q r, x = 67108864 * q + r ∧ 0 ≤ r ∧ r < 67108864 ∧ x / 67108864 = q ∧ x % 67108864 = r := ⟨x / 67108864, x % 67108864, by omega, by omega, by omega, rfl, rfl⟩
/-- What the carries make of five digits. -/
theorem up_val {a b c d e : Int} (ha : 0 ≤ a ∧ a ≤ 9223372036854775808) (hb : 0 ≤ b ∧ b ≤ 9223372036854775808) (hc : 0 ≤ c ∧ c ≤ 9223372036854775808) (hd : 0 ≤ d ∧ d ≤ 9223372036854775808) (he : 0 ≤ e ∧ e ≤ 9223372036854775808) :
    ∃ q1 q2 q3 q4 q5 r1 r2 r3 r4 r5, a = 67108864 * q1 + r1 ∧ b + q1 = 67108864 * q2 + r2 ∧ c + q2 = 67108864 * q3 + r3 ∧ d + q3 = 67108864 * q4 + r4 ∧ e + q4 = 67108864 * q5 + r5 ∧
      (0 ≤ r1 ∧ r1 < 67108864) ∧ (0 ≤ r2 ∧ r2 < 67108864) ∧ (0 ≤ r3 ∧ r3 < 67108864) ∧ (0 ≤ r4 ∧ r4 < 67108864) ∧ (0 ≤ r5 ∧ r5 < 67108864) ∧ upL a b c d e = [r1 + 5 * q5, r2, r3, r4, r5] := by
  obtain ⟨q1, r1, e1, l1, u1, d1, m1⟩ := dm a
  obtain ⟨q2, r2, e2, l2, u2, d2, m2⟩ := dm (b + q1)
  obtain ⟨q3, r3, e3, l3, u3, d3, m3⟩ := dm (c + q2)
  obtain ⟨q4, r4, e4, l4, u4, d4, m4⟩ := dm (d + q3)
  obtain ⟨q5, r5, e5, l5, u5, d5, m5'⟩ := dm (e + q4)
  refine ⟨q1, q2, q3, q4, q5, r1, r2, r3, r4, r5, e1, e2, e3, e4, e5, ⟨l1, u1⟩, ⟨l2, u2⟩, ⟨l3, u3⟩, ⟨l4, u4⟩, ⟨l5, u5⟩, ?_⟩
  have A0 : w6 (a + 0) = a := by rw [w6_in (by omega) (by omega)]; omega
  have A1 : s26 a = q1 := by rw [s26_eq ha.1, d1]
  have B0 : w6 (b + q1) = b + q1 := w6_in (by omega) (by omega)
  have B1 : s26 (b + q1) = q2 := by rw [s26_eq (by omega), d2]
  have C0 : w6 (c + q2) = c + q2 := w6_in (by omega) (by omega)
  have C1 : s26 (c + q2) = q3 := by rw [s26_eq (by omega), d3]
  have D0 : w6 (d + q3) = d + q3 := w6_in (by omega) (by omega)
  have D1 : s26 (d + q3) = q4 := by rw [s26_eq (by omega), d4]
  have E0 : w6 (e + q4) = e + q4 := w6_in (by omega) (by omega)
  have E1 : s26 (e + q4) = q5 := by rw [s26_eq (by omega), d5]
  have F0 : w6 (5 * q5) = 5 * q5 := w6_in (by omega) (by omega)
  have M1 : m26 a = r1 := by rw [m26_eq ha.1 (by omega), m1]
  have M2 : m26 (b + q1) = r2 := by rw [m26_eq (by omega) (by omega), m2]
  have M3 : m26 (c + q2) = r3 := by rw [m26_eq (by omega) (by omega), m3]
  have M4 : m26 (d + q3) = r4 := by rw [m26_eq (by omega) (by omega), m4]
  have M5 : m26 (e + q4) = r5 := by rw [m26_eq (by omega) (by omega), m5']
  have G0 : w6 (r1 + 5 * q5) = r1 + 5 * q5 := w6_in (by omega) (by omega)
  unfold upL
  simp only [A0, A1, B0, B1, C0, C1, D0, D1, E0, E1, F0, M1, M2, M3, M4, M5, G0]
theorem mulb {x y X Y : Int} (hx : 0 ≤ x ∧ x ≤ X) (hy : 0 ≤ y ∧ y ≤ Y) : 0 ≤ x * y ∧ x * y ≤ X * Y := by
  refine ⟨Int.mul_nonneg hx.1 hy.1, ?_⟩
  have h1 : x * y ≤ X * y := Int.mul_le_mul_of_nonneg_right hx.2 hy.1
  have h2 : X * y ≤ X * Y := Int.mul_le_mul_of_nonneg_left hy.2 (by omega)
  omega
theorem num_mul (x0 x1 x2 x3 x4 y0 y1 y2 y3 y4 : Int) : num5 x0 x1 x2 x3 x4 * num5 y0 y1 y2 y3 y4 = num5 (x0 * y0 + 5 * x1 * y4 + 5 * x2 * y3 + 5 * x3 * y2 + 5 * x4 * y1) (x0 * y1 + x1 * y0 + 5 * x2 * y4 + 5 * x3 * y3 + 5 * x4 * y2) (x0 * y2 + x1 * y1 + x2 * y0 + 5 * x3 * y4 + 5 * x4 * y3) (x0 * y3 + x1 * y2 + x2 * y1 + x3 * y0 + 5 * x4 * y4) (x0 * y4 + x1 * y3 + x2 * y2 + x3 * y1 + x4 * y0) + pP * (x1 * y4 + x2 * y3 + x3 * y2 + x4 * y1 + 67108864 * (x2 * y4 + x3 * y3 + x4 * y2) + 4503599627370496 * (x3 * y4 + x4 * y3) + 302231454903657293676544 * (x4 * y4)) := by
  unfold num5 pP
  grind
theorem sm_in {x0 x1 x2 x3 x4 : Int} (h0 : 0 ≤ x0) (h1 : 0 ≤ x1) (h2 : 0 ≤ x2) (h3 : 0 ≤ x3) (h4 : 0 ≤ x4) (h : x0 + x1 + x2 + x3 + x4 < 18446744073709551616) : sm x0 x1 x2 x3 x4 = x0 + x1 + x2 + x3 + x4 := by
  unfold sm
  rw [w6_in (x := 0 + x0) (by omega) (by omega), w6_in (x := 0 + x0 + x1) (by omega) (by omega), w6_in (x := 0 + x0 + x1 + x2) (by omega) (by omega), w6_in (x := 0 + x0 + x1 + x2 + x3) (by omega) (by omega), w6_in (by omega) (by omega)]
  omega
/-- Digits of a number that is alike. -/
def Dig5 (s : List Int) (N : Int) : Prop := ∃ a b c d e, s = [a, b, c, d, e] ∧ (0 ≤ a ∧ a ≤ 34359738368) ∧ (0 ≤ b ∧ b < 67108864) ∧ (0 ≤ c ∧ c < 67108864) ∧ (0 ≤ d ∧ d < 67108864) ∧ (0 ≤ e ∧ e < 67108864) ∧ num5 a b c d e % pP = N % pP
theorem times_val {x0 x1 x2 x3 x4 y0 y1 y2 y3 y4 : Int} (h0 : 0 ≤ x0 ∧ x0 ≤ 68719476736) (h1 : 0 ≤ x1 ∧ x1 ≤ 134217728) (h2 : 0 ≤ x2 ∧ x2 ≤ 134217728) (h3 : 0 ≤ x3 ∧ x3 ≤ 134217728) (h4 : 0 ≤ x4 ∧ x4 ≤ 134217728)
    (k0 : 0 ≤ y0 ∧ y0 ≤ 67108864) (k1 : 0 ≤ y1 ∧ y1 ≤ 67108864) (k2 : 0 ≤ y2 ∧ y2 ≤ 67108864) (k3 : 0 ≤ y3 ∧ y3 ≤ 67108864) (k4 : 0 ≤ y4 ∧ y4 ≤ 1048576) :
    Dig5 (timesL x0 x1 x2 x3 x4 y0 y1 y2 y3 y4) (num5 x0 x1 x2 x3 x4 * num5 y0 y1 y2 y3 y4) := by
  have p00 := mulb h0 k0
  have p01 := mulb h0 k1
  have p02 := mulb h0 k2
  have p03 := mulb h0 k3
  have p04 := mulb h0 k4
  have p10 := mulb h1 k0
  have p11 := mulb h1 k1
  have p12 := mulb h1 k2
  have p13 := mulb h1 k3
  have p14 := mulb h1 k4
  have p20 := mulb h2 k0
  have p21 := mulb h2 k1
  have p22 := mulb h2 k2
  have p23 := mulb h2 k3
  have p24 := mulb h2 k4
  have p30 := mulb h3 k0
  have p31 := mulb h3 k1
  have p32 := mulb h3 k2
  have p33 := mulb h3 k3
  have p34 := mulb h3 k4
  have p40 := mulb h4 k0
  have p41 := mulb h4 k1
  have p42 := mulb h4 k2
  have p43 := mulb h4 k3
  have p44 := mulb h4 k4
  have M : ∀ {x y : Int}, 0 ≤ x * y ∧ x * y ≤ 68719476736 * 67108864 → ml x y = x * y := fun {x y} h => by unfold ml; exact w6_in (by omega) (by omega)
  have M5 : ∀ {x y : Int}, 0 ≤ x ∧ x ≤ 134217728 → 0 ≤ x * y ∧ x * y ≤ 134217728 * 67108864 → m5 x y = 5 * x * y := fun {x y} hx h => by
    unfold m5
    have e : 5 * x * y = 5 * (x * y) := Int.mul_assoc ..
    rw [w6_in (x := 5 * x) (by omega) (by omega), w6_in (by omega) (by omega)]
  have hm := num_mul x0 x1 x2 x3 x4 y0 y1 y2 y3 y4
  have a5 : ∀ x y : Int, 5 * x * y = 5 * (x * y) := fun x y => Int.mul_assoc ..
  unfold timesL
  rw [M (x := x0) (y := y0) (by omega), M (x := x0) (y := y1) (by omega), M (x := x0) (y := y2) (by omega), M (x := x0) (y := y3) (by omega), M (x := x0) (y := y4) (by omega), M (x := x1) (y := y0) (by omega), M (x := x1) (y := y1) (by omega), M (x := x1) (y := y2) (by omega), M (x := x1) (y := y3) (by omega), M (x := x2) (y := y0) (by omega), M (x := x2) (y := y1) (by omega), M (x := x2) (y := y2) (by omega), M (x := x3) (y := y0) (by omega), M (x := x3) (y := y1) (by omega), M (x := x4) (y := y0) (by omega),
    M5 (x := x1) (y := y4) h1 (by omega), M5 (x := x2) (y := y3) h2 (by omega), M5 (x := x2) (y := y4) h2 (by omega), M5 (x := x3) (y := y2) h3 (by omega), M5 (x := x3) (y := y3) h3 (by omega), M5 (x := x3) (y := y4) h3 (by omega), M5 (x := x4) (y := y1) h4 (by omega), M5 (x := x4) (y := y2) h4 (by omega), M5 (x := x4) (y := y3) h4 (by omega), M5 (x := x4) (y := y4) h4 (by omega)]
  simp only [a5] at hm ⊢
  clear M M5 a5 h0 h1 h2 h3 h4 k0 k1 k2 k3 k4
  generalize num5 x0 x1 x2 x3 x4 * num5 y0 y1 y2 y3 y4 = W at *
  generalize x0 * y0 = z00 at *
  generalize x0 * y1 = z01 at *
  generalize x0 * y2 = z02 at *
  generalize x0 * y3 = z03 at *
  generalize x0 * y4 = z04 at *
  generalize x1 * y0 = z10 at *
  generalize x1 * y1 = z11 at *
  generalize x1 * y2 = z12 at *
  generalize x1 * y3 = z13 at *
  generalize x1 * y4 = z14 at *
  generalize x2 * y0 = z20 at *
  generalize x2 * y1 = z21 at *
  generalize x2 * y2 = z22 at *
  generalize x2 * y3 = z23 at *
  generalize x2 * y4 = z24 at *
  generalize x3 * y0 = z30 at *
  generalize x3 * y1 = z31 at *
  generalize x3 * y2 = z32 at *
  generalize x3 * y3 = z33 at *
  generalize x3 * y4 = z34 at *
  generalize x4 * y0 = z40 at *
  generalize x4 * y1 = z41 at *
  generalize x4 * y2 = z42 at *
  generalize x4 * y3 = z43 at *
  generalize x4 * y4 = z44 at *
  rw [sm_in (x0 := z00) (x1 := 5 * z14) (x2 := 5 * z23) (x3 := 5 * z32) (x4 := 5 * z41) (by omega) (by omega) (by omega) (by omega) (by omega) (by omega),
    sm_in (x0 := z01) (x1 := z10) (x2 := 5 * z24) (x3 := 5 * z33) (x4 := 5 * z42) (by omega) (by omega) (by omega) (by omega) (by omega) (by omega),
    sm_in (x0 := z02) (x1 := z11) (x2 := z20) (x3 := 5 * z34) (x4 := 5 * z43) (by omega) (by omega) (by omega) (by omega) (by omega) (by omega),
    sm_in (x0 := z03) (x1 := z12) (x2 := z21) (x3 := z30) (x4 := 5 * z44) (by omega) (by omega) (by omega) (by omega) (by omega) (by omega),
    sm_in (x0 := z04) (x1 := z13) (x2 := z22) (x3 := z31) (x4 := z40) (by omega) (by omega) (by omega) (by omega) (by omega) (by omega)]
  have b0 : 0 ≤ z00 + 5 * z14 + 5 * z23 + 5 * z32 + 5 * z41 ∧ z00 + 5 * z14 + 5 * z23 + 5 * z32 + 5 * z41 ≤ 9223372036854775808 := by omega
  have b1 : 0 ≤ z01 + z10 + 5 * z24 + 5 * z33 + 5 * z42 ∧ z01 + z10 + 5 * z24 + 5 * z33 + 5 * z42 ≤ 9223372036854775808 := by omega
  have b2 : 0 ≤ z02 + z11 + z20 + 5 * z34 + 5 * z43 ∧ z02 + z11 + z20 + 5 * z34 + 5 * z43 ≤ 9223372036854775808 := by omega
  have b3 : 0 ≤ z03 + z12 + z21 + z30 + 5 * z44 ∧ z03 + z12 + z21 + z30 + 5 * z44 ≤ 9223372036854775808 := by omega
  have b4 : 0 ≤ z04 + z13 + z22 + z31 + z40 ∧ z04 + z13 + z22 + z31 + z40 ≤ 144115188075855872 := by omega
  clear p00 p01 p02 p03 p04 p10 p11 p12 p13 p14 p20 p21 p22 p23 p24 p30 p31 p32 p33 p34 p40 p41 p42 p43 p44
  generalize z00 + 5 * z14 + 5 * z23 + 5 * z32 + 5 * z41 = P0 at *
  generalize z01 + z10 + 5 * z24 + 5 * z33 + 5 * z42 = P1 at *
  generalize z02 + z11 + z20 + 5 * z34 + 5 * z43 = P2 at *
  generalize z03 + z12 + z21 + z30 + 5 * z44 = P3 at *
  generalize z04 + z13 + z22 + z31 + z40 = P4 at *
  generalize z14 + z23 + z32 + z41 + 67108864 * (z24 + z33 + z42) + 4503599627370496 * (z34 + z43) + 302231454903657293676544 * z44 = K at *
  obtain ⟨q1, q2, q3, q4, q5, r1, r2, r3, r4, r5, e1, e2, e3, e4, e5, l1, l2, l3, l4, l5, h⟩ := up_val b0 b1 b2 b3 (e := P4) (by omega)
  refine ⟨r1 + 5 * q5, r2, r3, r4, r5, h, by omega, l2, l3, l4, l5, ?_⟩
  have e : num5 (r1 + 5 * q5) r2 r3 r4 r5 = W - pP * (K + q5) := by
    rw [hm]
    unfold num5 pP
    omega
  rw [e, Int.sub_mul_emod_self_left]
end Go.Proofs.Ythlleheeghiljaa
namespace Go.Proofs.Ythlleheeghiljaa
open Go.RowKit
set_option maxRecDepth 100000

theorem sShr64 (x : Int) (k : Nat) (hk : k ≤ 64) : sShr .u64 x (k : Int) = x / 2 ^ k := by
  unfold sShr
  rw [show min ((k : Int).toNat) (IntKind.bits .u64) = k by rw [Int.toNat_natCast]; exact Nat.min_eq_left hk, Int.fdiv_eq_ediv_of_nonneg _ (Int.pow_nonneg (by decide))]
theorem sShl64 (x : Int) (k : Nat) (hk : k ≤ 64) : sShl .u64 x (k : Int) = x * 2 ^ k % 18446744073709551616 := by
  unfold sShl
  rw [show min ((k : Int).toNat) (IntKind.bits .u64) = k by rw [Int.toNat_natCast]; exact Nat.min_eq_left hk, wU64]
theorem w8_cons {l : List Int} (hl : 8 ≤ l.length) (hb : Bys l) : w8 l = valD (l.take 8) ∧ 0 ≤ w8 l ∧ w8 l < 18446744073709551616 := by
  match l, hl with
  | f0 :: f1 :: f2 :: f3 :: f4 :: f5 :: f6 :: f7 :: r, _ =>
    have k : ∀ x ∈ f0 :: f1 :: f2 :: f3 :: f4 :: f5 :: f6 :: f7 :: r, 0 ≤ x ∧ x < 256 := hb
    have k0 := k f0 (by simp)
    have k1 := k f1 (by simp)
    have k2 := k f2 (by simp)
    have k3 := k f3 (by simp)
    have k4 := k f4 (by simp)
    have k5 := k f5 (by simp)
    have k6 := k f6 (by simp)
    have k7 := k f7 (by simp)
    rw [w8_val f0 f1 f2 f3 f4 f5 f6 f7 r k0 k1 k2 k3 k4 k5 k6 k7]
    refine ⟨?_, by omega, by omega⟩
    show _ = f0 + 256 * (f1 + 256 * (f2 + 256 * (f3 + 256 * (f4 + 256 * (f5 + 256 * (f6 + 256 * (f7 + 256 * 0)))))))
    omega
/-- Sixteen bytes and one behind, as digits. -/
theorem digL_val {l : List Int} (hl : l.length = 16) (hb : Bys l) {x : Int} (hx : 0 ≤ x ∧ x ≤ 1) : ∃ a b c d e, digL l x = [a, b, c, d, e] ∧ (0 ≤ a ∧ a < 67108864) ∧ (0 ≤ b ∧ b < 67108864) ∧ (0 ≤ c ∧ c < 67108864) ∧ (0 ≤ d ∧ d < 67108864) ∧ (0 ≤ e ∧ e < 16777216 + 16777216 * x) ∧ num5 a b c d e = valD l + 340282366920938463463374607431768211456 * x ∧ e = w8 (l.drop 8) / 1099511627776 + 16777216 * x := by
  obtain ⟨v1, n1, u1⟩ := w8_cons (l := l) (by omega) hb
  obtain ⟨v2, n2, u2⟩ := w8_cons (l := l.drop 8) (by rw [List.length_drop]; omega) (hb.drop 8)
  have hv : valD l = w8 l + 18446744073709551616 * w8 (l.drop 8) := by
    have e := valD_app (l.take 8) (l.drop 8)
    rw [List.take_append_drop, List.length_take, Nat.min_eq_left (by omega), ← v1] at e
    rw [e, v2, List.take_of_length_le (l := l.drop 8) (by rw [List.length_drop]; omega)]
    rfl
  generalize hp : w8 l = p at *
  generalize hq : w8 (l.drop 8) = q at *
  have s1 : sShr .u64 p 26 = p / 67108864 := (sShr64 p 26 (by omega)).trans (by rw [show (2 : Int) ^ 26 = 67108864 by decide])
  have s2 : sShr .u64 p 52 = p / 4503599627370496 := (sShr64 p 52 (by omega)).trans (by rw [show (2 : Int) ^ 52 = 4503599627370496 by decide])
  have s3 : sShr .u64 q 14 = q / 16384 := (sShr64 q 14 (by omega)).trans (by rw [show (2 : Int) ^ 14 = 16384 by decide])
  have s4 : sShr .u64 q 40 = q / 1099511627776 := (sShr64 q 40 (by omega)).trans (by rw [show (2 : Int) ^ 40 = 1099511627776 by decide])
  have s5 : sShl .u64 q 12 = q % 4503599627370496 * 4096 := (sShl64 q 12 (by omega)).trans (by rw [show (2 : Int) ^ 12 = 4096 by decide]; omega)
  have s6 : sShl .u64 x 24 = x * 16777216 := (sShl64 x 24 (by omega)).trans (by rw [show (2 : Int) ^ 24 = 16777216 by decide]; omega)
  have o1 : bits .or .u64 (p / 4503599627370496) (q % 4503599627370496 * 4096) = p / 4503599627370496 + q % 4503599627370496 * 4096 := p_or_high 12 4096 _ _ (by decide) (by omega) (by omega) (by omega) (by omega) (by omega)
  have o2 : bits .or .u64 (q / 1099511627776) (x * 16777216) = q / 1099511627776 + x * 16777216 := p_or_high 24 16777216 _ _ (by decide) (by omega) (by omega) (by omega) (by omega) (by omega)
  have t1 : bits .and .u64 p 67108863 = p % 67108864 := m26_eq n1 u1
  have t2 : bits .and .u64 (p / 67108864) 67108863 = p / 67108864 % 67108864 := m26_eq (by omega) (by omega)
  have t3 : bits .and .u64 (p / 4503599627370496 + q % 4503599627370496 * 4096) 67108863 = (p / 4503599627370496 + q % 4503599627370496 * 4096) % 67108864 := m26_eq (by omega) (by omega)
  have t4 : bits .and .u64 (q / 16384) 67108863 = q / 16384 % 67108864 := m26_eq (by omega) (by omega)
  refine ⟨p % 67108864, p / 67108864 % 67108864, (p / 4503599627370496 + q % 4503599627370496 * 4096) % 67108864, q / 16384 % 67108864, q / 1099511627776 + x * 16777216, ?_, by omega, by omega, by omega, by omega, by omega, ?_, by omega⟩
  · unfold digL
    rw [hp, hq, s1, s2, s3, s4, s5, s6, o1, o2, t1, t2, t3, t4]
  · rw [hv]
    unfold num5
    omega
theorem rdF_id {l : List Int} (h : l.length = 16) : rdF l = l := by
  unfold rdF lay
  rw [List.take_zero, List.nil_append, List.drop_zero, List.drop_zero, List.take_of_length_le (l := l) (by omega), List.take_left' h]
theorem rdP_id {l : List Int} {n : Nat} (h : l.length = n) (hn : n < 16) : rdP n l = l ++ 1 :: List.replicate (15 - n) 0 := by
  unfold rdP lay
  have hm : Nat.min n 16 = n := Nat.min_eq_left (by omega)
  rw [List.take_zero, List.nil_append, List.drop_zero, List.drop_zero, hm, List.take_of_length_le (l := l) (by omega), Nat.zero_add, h, List.drop_replicate, show 16 - n = (15 - n) + 1 by omega, List.replicate_succ, List.set_append_right n _ (by omega), h, Nat.sub_self, List.set_cons_zero, List.take_of_length_le (by simp; omega)]
/-- A block, read. -/
theorem readL_val {l : List Int} {n : Nat} (h : l.length = n) (hn : n ≤ 16) (hb : Bys l) : ∃ a b c d e, readL n l = [a, b, c, d, e] ∧ (0 ≤ a ∧ a < 67108864) ∧ (0 ≤ b ∧ b < 67108864) ∧ (0 ≤ c ∧ c < 67108864) ∧ (0 ≤ d ∧ d < 67108864) ∧ (0 ≤ e ∧ e ≤ 33554432) ∧ num5 a b c d e = valD l + 256 ^ n := by
  unfold readL
  by_cases h16 : n = 16
  · subst h16
    rw [decide_eq_true (show (((16 : Nat) : Int) = 16) from rfl), cond_true, rdF_id h]
    obtain ⟨a, b, c, d, e, e0, k1, k2, k3, k4, k5, k6, _⟩ := digL_val h hb (x := 1) (by omega)
    refine ⟨a, b, c, d, e, e0, k1, k2, k3, k4, by omega, ?_⟩
    rw [k6, show (256 : Int) ^ 16 = 340282366920938463463374607431768211456 by decide]
    omega
  · rw [decide_eq_false (show ¬ ((n : Int) = 16) by omega), cond_false, rdP_id h (by omega)]
    have hb' : Bys (l ++ 1 :: List.replicate (15 - n) 0) := by
      intro y hy
      rcases List.mem_append.1 hy with h1 | h1
      · exact hb y h1
      · rcases List.mem_cons.1 h1 with rfl | h2
        · omega
        · rw [List.mem_replicate] at h2; omega
    obtain ⟨a, b, c, d, e, e0, k1, k2, k3, k4, k5, k6, _⟩ := digL_val (l := l ++ 1 :: List.replicate (15 - n) 0) (by simp; omega) hb' (x := 0) (by omega)
    refine ⟨a, b, c, d, e, e0, k1, k2, k3, k4, by omega, ?_⟩
    have hz : valD (List.replicate (15 - n) 0) = 0 := valD_zero (fun j => by rw [List.getD_eq_getElem?_getD, List.getElem?_replicate]; split <;> rfl)
    rw [k6, valD_app, h]
    show valD l + 256 ^ n * (1 + 256 * valD (List.replicate (15 - n) 0)) + _ = _
    rw [hz]
    omega
/-- One block more. -/
theorem stp_val {s g r : List Int} {N V R : Int} (hs : Dig5 s N) (hg : ∃ a b c d e, g = [a, b, c, d, e] ∧ (0 ≤ a ∧ a < 67108864) ∧ (0 ≤ b ∧ b < 67108864) ∧ (0 ≤ c ∧ c < 67108864) ∧ (0 ≤ d ∧ d < 67108864) ∧ (0 ≤ e ∧ e ≤ 33554432) ∧ num5 a b c d e = V)
    (hr : ∃ a b c d e, r = [a, b, c, d, e] ∧ (0 ≤ a ∧ a ≤ 67108864) ∧ (0 ≤ b ∧ b ≤ 67108864) ∧ (0 ≤ c ∧ c ≤ 67108864) ∧ (0 ≤ d ∧ d ≤ 67108864) ∧ (0 ≤ e ∧ e ≤ 1048576) ∧ num5 a b c d e = R) :
    Dig5 (stp (s.getD 0 0) (s.getD 1 0) (s.getD 2 0) (s.getD 3 0) (s.getD 4 0) (r.getD 0 0) (r.getD 1 0) (r.getD 2 0) (r.getD 3 0) (r.getD 4 0) g) ((N + V) * R) := by
  obtain ⟨a, b, c, d, e, rfl, ha, hb, hc, hd, he, hN⟩ := hs
  obtain ⟨a', b', c', d', e', rfl, ha', hb', hc', hd', he', hV⟩ := hg
  obtain ⟨p, q, u, v, w, rfl, hp, hq, hu, hv, hw, hR⟩ := hr
  show Dig5 (timesL (w6 (a + a')) (w6 (b + b')) (w6 (c + c')) (w6 (d + d')) (w6 (e + e')) p q u v w) ((N + V) * R)
  rw [w6_in (x := a + a') (by omega) (by omega), w6_in (x := b + b') (by omega) (by omega), w6_in (x := c + c') (by omega) (by omega), w6_in (x := d + d') (by omega) (by omega), w6_in (x := e + e') (by omega) (by omega)]
  obtain ⟨x0, x1, x2, x3, x4, e0, k0, k1, k2, k3, k4, hx⟩ := times_val (x0 := a + a') (x1 := b + b') (x2 := c + c') (x3 := d + d') (x4 := e + e') (by omega) (by omega) (by omega) (by omega) (by omega) hp hq hu hv hw
  refine ⟨x0, x1, x2, x3, x4, e0, k0, k1, k2, k3, k4, hx.trans ?_⟩
  have es : num5 (a + a') (b + b') (c + c') (d + d') (e + e') = num5 a b c d e + V := by rw [← hV]; unfold num5; omega
  rw [es, hR, Int.mul_emod, Int.add_emod, hN, ← Int.add_emod, ← Int.mul_emod]
/-- After so many whole blocks. -/
theorem fold_val {r t : List Int} {R : Int} (hr : ∃ a b c d e, r = [a, b, c, d, e] ∧ (0 ≤ a ∧ a ≤ 67108864) ∧ (0 ≤ b ∧ b ≤ 67108864) ∧ (0 ≤ c ∧ c ≤ 67108864) ∧ (0 ≤ d ∧ d ≤ 67108864) ∧ (0 ≤ e ∧ e ≤ 1048576) ∧ num5 a b c d e = R) (ht : Bys t) : ∀ k, 16 * k ≤ t.length → Dig5 (fold5 [0, 0, 0, 0, 0] r t k) (accR R t k)
  | 0, _ => ⟨0, 0, 0, 0, 0, rfl, by omega, by omega, by omega, by omega, by omega, rfl⟩
  | k + 1, hk => by
    have ih := fold_val hr ht k (by omega)
    have hl : ((t.drop (16 * k)).take 16).length = 16 := by rw [List.length_take, List.length_drop]; omega
    have hg := readL_val hl (Nat.le_refl _) ((ht.drop _).take _)
    obtain ⟨x0, x1, x2, x3, x4, e0, k0, k1, k2, k3, k4, hx⟩ := stp_val ih hg hr
    refine ⟨x0, x1, x2, x3, x4, e0, k0, k1, k2, k3, k4, hx.trans ?_⟩
    rw [accR, Nat.min_eq_right (by omega), Int.emod_emod, blkV]
theorem all_val {r t : List Int} {R : Int} (hr : ∃ a b c d e, r = [a, b, c, d, e] ∧ (0 ≤ a ∧ a ≤ 67108864) ∧ (0 ≤ b ∧ b ≤ 67108864) ∧ (0 ≤ c ∧ c ≤ 67108864) ∧ (0 ≤ d ∧ d ≤ 67108864) ∧ (0 ≤ e ∧ e ≤ 1048576) ∧ num5 a b c d e = R) (ht : Bys t) : Dig5 (all5 [0, 0, 0, 0, 0] r t) (accR R t ((t.length + 15) / 16)) := by
  unfold all5
  have hf := fold_val hr ht (t.length / 16) (by omega)
  split
  · rw [show (t.length + 15) / 16 = t.length / 16 by omega]; exact hf
  · rename_i hn
    have hl : (t.drop (16 * (t.length / 16))).length = t.length % 16 := by rw [List.length_drop]; omega
    have hg := readL_val hl (by omega) (ht.drop _)
    obtain ⟨x0, x1, x2, x3, x4, e0, k0, k1, k2, k3, k4, hx⟩ := stp_val hf hg hr
    refine ⟨x0, x1, x2, x3, x4, e0, k0, k1, k2, k3, k4, hx.trans ?_⟩
    rw [show (t.length + 15) / 16 = t.length / 16 + 1 by omega, accR, show min (t.length - 16 * (t.length / 16)) 16 = t.length % 16 by omega, Int.emod_emod, blkV, List.take_of_length_le (by omega)]
theorem and15 : ∀ x : Int, 0 ≤ x ∧ x < 256 → bits .and .u8 x 15 = x % 16 ∧ bits .and .u8 x 252 = x - x % 4 := by
  intro x hx
  have : ∀ y : Fin 256, bits .and .u8 (y.val : Int) 15 = (y.val : Int) % 16 ∧ bits .and .u8 (y.val : Int) 252 = (y.val : Int) - (y.val : Int) % 4 := by decide +kernel
  obtain ⟨n, rfl⟩ := Int.eq_ofNat_of_zero_le hx.1
  exact this ⟨n, by omega⟩
theorem facL_eq {k : List Int} (hl : k.length = 32) (hb : Bys k) : facL k = rR k := by
  have K : ∀ i, keyI k i = k.getD i 0 := fun i => by have := hb.at i; unfold keyI; exact i64_in (by omega) (by omega)
  have T : ∀ i, Int.tmod (keyI k i) 16 = bits .and .u8 (k.getD i 0) 15 := fun i => by
    have := hb.at i
    rw [K, (and15 _ this).1, Int.tmod_eq_emod_of_nonneg this.1]
  have D : ∀ i, IntKind.wrap .i64 (keyI k i - Int.tmod (keyI k i) 4) = bits .and .u8 (k.getD i 0) 252 := fun i => by
    have := hb.at i
    rw [K, (and15 _ this).2, Int.tmod_eq_emod_of_nonneg this.1]
    exact i64_in (by omega) (by omega)
  unfold rR
  simp only [T, D]
  simp only [K]
  match k, hl with
  | [k0, k1, k2, k3, k4, k5, k6, k7, k8, k9, k10, k11, k12, k13, k14, k15, k16, k17, k18, k19, k20, k21, k22, k23, k24, k25, k26, k27, k28, k29, k30, k31], _ => rfl
theorem factor_val {k : List Int} (hl : k.length = 32) (hb : Bys k) : ∃ a b c d e, digL (facL k) 0 = [a, b, c, d, e] ∧ (0 ≤ a ∧ a ≤ 67108864) ∧ (0 ≤ b ∧ b ≤ 67108864) ∧ (0 ≤ c ∧ c ≤ 67108864) ∧ (0 ≤ d ∧ d ≤ 67108864) ∧ (0 ≤ e ∧ e ≤ 1048576) ∧ num5 a b c d e = valD (rR k) := by
  rw [facL_eq hl hb]
  have hr := rR_in hb
  have hB : Bys (rR k) := by
    intro y hy
    obtain ⟨j, hj, rfl⟩ := List.mem_iff_getElem.1 hy
    have := hr j
    rw [List.getD_eq_getElem?_getD, List.getElem?_eq_getElem hj] at this
    exact this
  obtain ⟨a, b, c, d, e, e0, k1, k2, k3, k4, k5, k6, k7⟩ := digL_val (rR_len k) hB (x := 0) (by omega)
  refine ⟨a, b, c, d, e, e0, by omega, by omega, by omega, by omega, ?_, by omega⟩
  obtain ⟨v2, n2, u2⟩ := w8_cons (l := (rR k).drop 8) (by rw [List.length_drop, rR_len]; omega) (hB.drop 8)
  have h8 := hr 8
  have h9 := hr 9
  have h10 := hr 10
  have h11 := hr 11
  have h12 := hr 12
  have h13 := hr 13
  have h14 := hr 14
  have h15 : (rR k).getD 15 0 < 16 := by
    show Int.tmod (keyI k 15) 16 < 16
    have : 0 ≤ keyI k 15 := by have := hb.at 15; unfold keyI; rw [IntKind.wrap_i64]; omega
    rw [Int.tmod_eq_emod_of_nonneg this]; omega
  have e8 : valD (((rR k).drop 8).take 8) = (rR k).getD 8 0 + 256 * ((rR k).getD 9 0 + 256 * ((rR k).getD 10 0 + 256 * ((rR k).getD 11 0 + 256 * ((rR k).getD 12 0 + 256 * ((rR k).getD 13 0 + 256 * ((rR k).getD 14 0 + 256 * ((rR k).getD 15 0 + 256 * 0))))))) := rfl
  rw [v2, e8] at k7
  omega
end Go.Proofs.Ythlleheeghiljaa
namespace Go.Proofs.Ythlleheeghiljaa
open Go.RowKit
set_option maxRecDepth 100000

theorem andNot_zero {x : Int} (h0 : 0 ≤ x) (h1 : x < 18446744073709551616) : bits .andNot .u64 x 0 = x := by
  obtain ⟨n, rfl⟩ := Int.eq_ofNat_of_zero_le h0
  show IntKind.u64.wrap ((BitVec.ofInt 64 (n : Int) &&& ~~~ BitVec.ofInt 64 (0 : Int)).toNat : Int) = _
  have e : (BitVec.ofInt 64 (n : Int) &&& ~~~ BitVec.ofInt 64 (0 : Int)) = BitVec.ofInt 64 (n : Int) := by
    rw [show ~~~ BitVec.ofInt 64 (0 : Int) = BitVec.allOnes 64 by decide, BitVec.and_allOnes]
  rw [e, ofInt_u64 n (by omega), IntKind.wrap_u64]
  omega
theorem andNot_ones {x : Int} (h0 : 0 ≤ x) (h1 : x < 18446744073709551616) : bits .andNot .u64 x 18446744073709551615 = 0 := by
  obtain ⟨n, rfl⟩ := Int.eq_ofNat_of_zero_le h0
  show IntKind.u64.wrap ((BitVec.ofInt 64 (n : Int) &&& ~~~ BitVec.ofInt 64 (18446744073709551615 : Int)).toNat : Int) = _
  have e : (BitVec.ofInt 64 (n : Int) &&& ~~~ BitVec.ofInt 64 (18446744073709551615 : Int)) = 0#64 := by
    rw [show ~~~ BitVec.ofInt 64 (18446744073709551615 : Int) = 0#64 by decide]; simp
  rw [e]; rfl
theorem and_zero {x : Int} (h0 : 0 ≤ x) (h1 : x < 18446744073709551616) : bits .and .u64 x 0 = 0 := by
  obtain ⟨n, rfl⟩ := Int.eq_ofNat_of_zero_le h0
  have := u64_and_nat n 0 (by omega) (by omega)
  rw [Nat.and_zero] at this
  exact this
theorem and_ones {x : Int} (h0 : 0 ≤ x) (h1 : x < 18446744073709551616) : bits .and .u64 x 18446744073709551615 = x := by
  obtain ⟨n, rfl⟩ := Int.eq_ofNat_of_zero_le h0
  have := u64_and_nat n 18446744073709551615 (by omega) (by omega)
  rw [show (18446744073709551615 : Nat) = 2 ^ 64 - 1 by decide, Nat.and_two_pow_sub_one_eq_mod, Nat.mod_eq_of_lt (by omega)] at this
  exact this
theorem or_zero {x : Int} (h0 : 0 ≤ x) (h1 : x < 18446744073709551616) : bits .or .u64 x 0 = x ∧ bits .or .u64 0 x = x := by
  obtain ⟨n, rfl⟩ := Int.eq_ofNat_of_zero_le h0
  have a := u64_or_nat n 0 (by omega) (by omega)
  have b := u64_or_nat 0 n (by omega) (by omega)
  rw [Nat.or_zero] at a
  rw [Nat.zero_or] at b
  exact ⟨a, b⟩
theorem pk_val {x y : Int} (hx : 0 ≤ x ∧ x < 18446744073709551616) (hy : 0 ≤ y ∧ y < 18446744073709551616) : pk x y (w6 (0 - 0)) = x ∧ pk x y (w6 (0 - 1)) = y := by
  have r0 : w6 (0 - 0) = 0 := by unfold w6; rw [wU64]; rfl
  have r1 : w6 (0 - 1) = 18446744073709551615 := by unfold w6; rw [wU64]; decide
  unfold pk
  rw [r0, r1, andNot_zero hx.1 hx.2, and_zero hy.1 hy.2, andNot_ones hx.1 hx.2, and_ones hy.1 hy.2, (or_zero hx.1 hx.2).1, (or_zero hy.1 hy.2).2]
  exact ⟨rfl, rfl⟩
/-- The least number that is alike. -/
theorem least_val {a b c d e N : Int} (ha : 0 ≤ a ∧ a ≤ 34359738368) (hb : 0 ≤ b ∧ b < 67108864) (hc : 0 ≤ c ∧ c < 67108864) (hd : 0 ≤ d ∧ d < 67108864) (he : 0 ≤ e ∧ e < 67108864) (hN : num5 a b c d e % pP = N % pP) :
    ∃ a' b' c' d' e', leastL a b c d e = [a', b', c', d', e'] ∧ (0 ≤ a' ∧ a' < 67108864) ∧ (0 ≤ b' ∧ b' < 67108864) ∧ (0 ≤ c' ∧ c' < 67108864) ∧ (0 ≤ d' ∧ d' < 67108864) ∧ (0 ≤ e' ∧ e' < 67108864) ∧ num5 a' b' c' d' e' = N % pP := by
  obtain ⟨q1, q2, q3, q4, q5, r1, r2, r3, r4, r5, e1, e2, e3, e4, e5, l1, l2, l3, l4, l5, h⟩ := up_val (a := a) (b := b) (c := c) (d := d) (e := e) (by omega) (by omega) (by omega) (by omega) (by omega)
  have b1 : 0 ≤ q1 ∧ q1 ≤ 512 := by omega
  have b2 : 0 ≤ q2 ∧ q2 ≤ 1 := by omega
  have b3 : 0 ≤ q3 ∧ q3 ≤ 1 := by omega
  have b4 : 0 ≤ q4 ∧ q4 ≤ 1 := by omega
  have b5 : 0 ≤ q5 ∧ q5 ≤ 1 := by omega
  have z5 : q5 = 1 → r5 = 0 := by omega
  have n1 : num5 (r1 + 5 * q5) r2 r3 r4 r5 = num5 a b c d e - pP * q5 := by unfold num5 pP; omega
  clear e1 e2 e3 e4 e5 b1 b2 b3 b4
  obtain ⟨p1, p2, p3, p4, p5, s1, s2, s3, s4, s5, f1, f2, f3, f4, f5, k1, k2, k3, k4, k5, g⟩ := up_val (a := r1 + 5 * q5) (b := r2) (c := r3) (d := r4) (e := r5) (by omega) (by omega) (by omega) (by omega) (by omega)
  have c1 : 0 ≤ p1 ∧ p1 ≤ 1 := by omega
  have c1' : p1 = 1 → q5 = 1 := by omega
  have c2 : 0 ≤ p2 ∧ p2 ≤ 1 := by omega
  have c2' : p2 = 1 → p1 = 1 := by omega
  have c3 : 0 ≤ p3 ∧ p3 ≤ 1 := by omega
  have c3' : p3 = 1 → p2 = 1 := by omega
  have c4 : 0 ≤ p4 ∧ p4 ≤ 1 := by omega
  have c4' : p4 = 1 → p3 = 1 := by omega
  have c5 : p5 = 0 := by omega
  have n2 : num5 s1 s2 s3 s4 s5 = num5 a b c d e - pP * q5 := by rw [← n1]; unfold num5; omega
  have g' : upL (r1 + 5 * q5) r2 r3 r4 r5 = [s1, s2, s3, s4, s5] := by rw [g, c5, Int.mul_zero, Int.add_zero]
  clear f1 f2 f3 f4 f5 c1 c1' c2 c2' c3 c3' c4 c4' g n1 z5
  -- five more
  obtain ⟨t1, u1, m1, v1, w1, d1, _⟩ := dm (s1 + 5)
  obtain ⟨t2, u2, m2, v2, w2, d2, _⟩ := dm (s2 + t1)
  obtain ⟨t3, u3, m3, v3, w3, d3, _⟩ := dm (s3 + t2)
  obtain ⟨t4, u4, m4, v4, w4, d4, _⟩ := dm (s4 + t3)
  obtain ⟨t5, u5, m5', v5, w5, d5, _⟩ := dm (s5 + t4)
  have o1 : 0 ≤ t1 ∧ t1 ≤ 1 := by omega
  have o2 : 0 ≤ t2 ∧ t2 ≤ 1 := by omega
  have o3 : 0 ≤ t3 ∧ t3 ≤ 1 := by omega
  have o4 : 0 ≤ t4 ∧ t4 ≤ 1 := by omega
  have o5 : 0 ≤ t5 ∧ t5 ≤ 1 := by omega
  have M0 : mo0 s1 = s1 + 5 := w6_in (by omega) (by omega)
  have M1 : mo1 s1 s2 = s2 + t1 := by unfold mo1; rw [M0, s26_eq (by omega), d1]; exact w6_in (by omega) (by omega)
  have M2 : mo2 s1 s2 s3 = s3 + t2 := by unfold mo2; rw [M1, s26_eq (by omega), d2]; exact w6_in (by omega) (by omega)
  have M3 : mo3 s1 s2 s3 s4 = s4 + t3 := by unfold mo3; rw [M2, s26_eq (by omega), d3]; exact w6_in (by omega) (by omega)
  have M4 : mo4 s1 s2 s3 s4 s5 = s5 + t4 := by unfold mo4; rw [M3, s26_eq (by omega), d4]; exact w6_in (by omega) (by omega)
  have S5 : s26 (s5 + t4) = t5 := by rw [s26_eq (by omega), d5]
  have x1 : m26 (s1 + 5) = u1 := by rw [m26_eq (by omega) (by omega)]; omega
  have x2 : m26 (s2 + t1) = u2 := by rw [m26_eq (by omega) (by omega)]; omega
  have x3 : m26 (s3 + t2) = u3 := by rw [m26_eq (by omega) (by omega)]; omega
  have x4 : m26 (s4 + t3) = u4 := by rw [m26_eq (by omega) (by omega)]; omega
  have x5 : m26 (s5 + t4) = u5 := by rw [m26_eq (by omega) (by omega)]; omega
  have L : leastL a b c d e = [pk s1 u1 (w6 (0 - t5)), pk s2 u2 (w6 (0 - t5)), pk s3 u3 (w6 (0 - t5)), pk s4 u4 (w6 (0 - t5)), pk s5 u5 (w6 (0 - t5))] := by
    unfold leastL
    rw [h]
    show lst5 least1 (upL (r1 + 5 * q5) r2 r3 r4 r5) = _
    rw [g']
    show least1 s1 s2 s3 s4 s5 = _
    unfold least1
    rw [M0, M1, M2, M3, M4, S5, x1, x2, x3, x4, x5]
  have eN : (num5 s1 s2 s3 s4 s5) % pP = N % pP := by rw [n2, Int.sub_mul_emod_self_left]; exact hN
  have n3 : num5 u1 u2 u3 u4 u5 + 1361129467683753853853498429727072845824 * t5 = num5 s1 s2 s3 s4 s5 + 5 := by unfold num5; omega
  have y0 : 0 ≤ num5 u1 u2 u3 u4 u5 ∧ num5 u1 u2 u3 u4 u5 < 1361129467683753853853498429727072845824 := by unfold num5; omega
  have y1 : 0 ≤ num5 s1 s2 s3 s4 s5 ∧ num5 s1 s2 s3 s4 s5 < 1361129467683753853853498429727072845824 := by unfold num5; omega
  rw [L]
  by_cases ht : t5 = 0
  · subst ht
    refine ⟨s1, s2, s3, s4, s5, ?_, k1, k2, k3, k4, k5, ?_⟩
    · rw [(pk_val (x := s1) (y := u1) (by omega) (by omega)).1, (pk_val (x := s2) (y := u2) (by omega) (by omega)).1, (pk_val (x := s3) (y := u3) (by omega) (by omega)).1, (pk_val (x := s4) (y := u4) (by omega) (by omega)).1, (pk_val (x := s5) (y := u5) (by omega) (by omega)).1]
    · rw [← eN, Int.emod_eq_of_lt y1.1 (by unfold pP; omega)]
  · have ht1 : t5 = 1 := by omega
    subst ht1
    refine ⟨u1, u2, u3, u4, u5, ?_, ⟨v1, w1⟩, ⟨v2, w2⟩, ⟨v3, w3⟩, ⟨v4, w4⟩, ⟨v5, w5⟩, ?_⟩
    · rw [(pk_val (x := s1) (y := u1) (by omega) (by omega)).2, (pk_val (x := s2) (y := u2) (by omega) (by omega)).2, (pk_val (x := s3) (y := u3) (by omega) (by omega)).2, (pk_val (x := s4) (y := u4) (by omega) (by omega)).2, (pk_val (x := s5) (y := u5) (by omega) (by omega)).2]
    · rw [← eN]
      have e : num5 s1 s2 s3 s4 s5 = num5 u1 u2 u3 u4 u5 + pP * 1 := by unfold pP; omega
      rw [e, Int.add_mul_emod_self_left, Int.emod_eq_of_lt y0.1 (by unfold pP; omega)]
/-- The two words of five digits. -/
theorem words_val {a b c d e : Int} (ha : 0 ≤ a ∧ a < 67108864) (hb : 0 ≤ b ∧ b < 67108864) (hc : 0 ≤ c ∧ c < 67108864) (hd : 0 ≤ d ∧ d < 67108864) : lowE a b c + 18446744073709551616 * highE c d e = num5 a b c d e % 340282366920938463463374607431768211456 := by
  have s1 : sShl .u64 b 26 = b * 67108864 := (sShl64 b 26 (by omega)).trans (by rw [show (2 : Int) ^ 26 = 67108864 by decide]; omega)
  have s2 : sShl .u64 c 52 = c % 4096 * 4503599627370496 := (sShl64 c 52 (by omega)).trans (by rw [show (2 : Int) ^ 52 = 4503599627370496 by decide]; omega)
  have s3 : sShr .u64 c 12 = c / 4096 := (sShr64 c 12 (by omega)).trans (by rw [show (2 : Int) ^ 12 = 4096 by decide])
  have s4 : sShl .u64 d 14 = d * 16384 := (sShl64 d 14 (by omega)).trans (by rw [show (2 : Int) ^ 14 = 16384 by decide]; omega)
  have s5 : sShl .u64 e 40 = e % 16777216 * 1099511627776 := (sShl64 e 40 (by omega)).trans (by rw [show (2 : Int) ^ 40 = 1099511627776 by decide]; omega)
  have o1 : bits .or .u64 a (b * 67108864) = a + b * 67108864 := p_or_high 26 67108864 _ _ (by decide) (by omega) (by omega) (by omega) (by omega) (by omega)
  have o2 : bits .or .u64 (a + b * 67108864) (c % 4096 * 4503599627370496) = a + b * 67108864 + c % 4096 * 4503599627370496 := p_or_high 52 4503599627370496 _ _ (by decide) (by omega) (by omega) (by omega) (by omega) (by omega)
  have o3 : bits .or .u64 (c / 4096) (d * 16384) = c / 4096 + d * 16384 := p_or_high 14 16384 _ _ (by decide) (by omega) (by omega) (by omega) (by omega) (by omega)
  have o4 : bits .or .u64 (c / 4096 + d * 16384) (e % 16777216 * 1099511627776) = c / 4096 + d * 16384 + e % 16777216 * 1099511627776 := p_or_high 40 1099511627776 _ _ (by decide) (by omega) (by omega) (by omega) (by omega) (by omega)
  unfold lowE highE
  rw [s1, s2, s3, s4, s5, o1, o2, o3, o4]
  unfold num5
  omega
/-- The program's sum is the reference's. -/
theorem sumL_eq {k t : List Int} (hk : k.length = 32) (bk : Bys k) (bt : Bys t) : sumL k t = dgl 16 (accR (valD (rR k)) t ((t.length + 15) / 16) + valD (k.drop 16)) := by
  obtain ⟨a, b, c, d, e, hs, ha, hb, hc, hd, he, hN⟩ := all_val (factor_val hk bk) bt
  have hac := accR_in (valD (rR k)) t ((t.length + 15) / 16)
  obtain ⟨a', b', c', d', e', hl, ka, kb, kc, kd, ke, hn⟩ := least_val ha hb hc hd he hN
  rw [Int.emod_eq_of_lt hac.1 hac.2] at hn
  generalize accR (valD (rR k)) t ((t.length + 15) / 16) = X at *
  unfold sumL
  rw [hs]
  show tagL ((k.drop 16).take 16) a b c d e = _
  unfold tagL
  rw [hl]
  show tag2 (lowE a' b' c') (highE c' d' e') ((k.drop 16).take 16) = _
  have hdl : (k.drop 16).length = 16 := by rw [List.length_drop, hk]
  rw [List.take_of_length_le (l := k.drop 16) (by omega)]
  have hB := bk.drop 16
  obtain ⟨v1, n1, u1⟩ := w8_cons (l := k.drop 16) (by omega) hB
  obtain ⟨v2, n2, u2⟩ := w8_cons (l := (k.drop 16).drop 8) (by rw [List.length_drop]; omega) (hB.drop 8)
  have hv : valD (k.drop 16) = w8 (k.drop 16) + 18446744073709551616 * w8 ((k.drop 16).drop 8) := by
    have e := valD_app ((k.drop 16).take 8) ((k.drop 16).drop 8)
    rw [List.take_append_drop, List.length_take, Nat.min_eq_left (by omega), ← v1] at e
    rw [e, v2, List.take_of_length_le (l := (k.drop 16).drop 8) (by rw [List.length_drop]; omega)]
    rfl
  have wv := words_val (e := e') ka kb kc kd
  rw [hn] at wv
  have lo := or_in (bits .or .u64 a' (sShl .u64 b' 26)) (sShl .u64 c' 52)
  have hi := or_in (bits .or .u64 (sShr .u64 c' 12) (sShl .u64 d' 14)) (sShl .u64 e' 40)
  change 0 ≤ lowE a' b' c' ∧ lowE a' b' c' < _ at lo
  change 0 ≤ highE c' d' e' ∧ highE c' d' e' < _ at hi
  generalize lowE a' b' c' = lw at *
  generalize highE c' d' e' = hw at *
  rw [hv]
  refine ext_getD (by rw [dgl_len]; rfl) (fun p hp => ?_)
  have hp' : p < 16 := hp
  rw [dgl_at 16 _ p hp', tag2, bys16_at _ _ _ hp' (by omega), ← emod_cut _ p hp', ← emod_cut (X + _) p hp']
  congr 2
  omega
end Go.Proofs.Ythlleheeghiljaa
