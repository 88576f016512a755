/-
  poly: words of bytes and bytes of words. No program.
-/
/-
  poly: the bytes of a sum of numbers, and what is carried.
-/
import Derived.Test.YthlleheeghiljaaP2
import Derived.Test.YthlleheeghiljaaOy
namespace Go.Proofs.Ythlleheeghiljaa
open Go.RowKit
set_option maxRecDepth 100000

theorem p_or_nat (x y : Nat) (hx : x < 18446744073709551616) (hy : y < 18446744073709551616) : bits .or .u64 (x : Int) (y : Int) = ((x ||| y : Nat) : Int) := u64_or_nat x y hx hy
theorem p_or_high (k : Nat) (m a b : Int) (hm : m = 2 ^ k) (ha0 : 0 ≤ a) (ha : a < m) (hb0 : 0 ≤ b) (hb : b * m < 18446744073709551616) (ham : a < 18446744073709551616) : bits .or .u64 a (b * m) = a + b * m := by
  obtain ⟨x, rfl⟩ := Int.eq_ofNat_of_zero_le ha0
  obtain ⟨y, rfl⟩ := Int.eq_ofNat_of_zero_le hb0
  have hm' : m = ((2 ^ k : Nat) : Int) := by rw [hm]; simp
  subst hm'
  have hx : x < 2 ^ k := by omega
  have e1 : (y : Int) * ((2 ^ k : Nat) : Int) = ((2 ^ k * y : Nat) : Int) := by rw [Int.mul_comm]; simp
  rw [e1] at hb ⊢
  rw [p_or_nat _ _ (by omega) (by omega), Nat.or_comm, ← Nat.two_pow_add_eq_or_of_lt hx, Nat.add_comm]
  simp
/-- One byte more of a word. -/
theorem p_put (a f : Int) (i : Nat) (m : Int) (hm : m = 2 ^ (8 * i)) (hi : i < 8) (ha0 : 0 ≤ a) (ha : a < m) (hf0 : 0 ≤ f) (hf : f < 256) (hb : f * m < 18446744073709551616) : bits .or .u64 a (sShl .u64 (IntKind.wrap .u64 f) (8 * (i : Int))) = a + f * m := by
  have e : sShl .u64 (IntKind.wrap .u64 f) (8 * (i : Int)) = f * m := by
    unfold sShl
    rw [IntKind.wrap_u64, IntKind.wrap_u64, show f % 18446744073709551616 = f by omega, show min (8 * (i : Int)).toNat IntKind.u64.bits = 8 * i by show min _ 64 = _; omega, ← hm]
    have h0 : 0 ≤ f * m := Int.mul_nonneg hf0 (by omega)
    exact Int.emod_eq_of_lt h0 hb
  rw [e]
  have : m < 18446744073709551616 := by
    rw [hm]
    have : i = 0 ∨ i = 1 ∨ i = 2 ∨ i = 3 ∨ i = 4 ∨ i = 5 ∨ i = 6 ∨ i = 7 := by omega
    rcases this with rfl | rfl | rfl | rfl | rfl | rfl | rfl | rfl <;> decide
  exact p_or_high _ m a f hm ha0 ha hf0 hb (by omega)
theorem w8_val (f0 f1 f2 f3 f4 f5 f6 f7 : Int) (r : List Int) (k0 : 0 ≤ f0 ∧ f0 < 256) (k1 : 0 ≤ f1 ∧ f1 < 256) (k2 : 0 ≤ f2 ∧ f2 < 256) (k3 : 0 ≤ f3 ∧ f3 < 256) (k4 : 0 ≤ f4 ∧ f4 < 256) (k5 : 0 ≤ f5 ∧ f5 < 256) (k6 : 0 ≤ f6 ∧ f6 < 256) (k7 : 0 ≤ f7 ∧ f7 < 256) :
    w8 (f0 :: f1 :: f2 :: f3 :: f4 :: f5 :: f6 :: f7 :: r) = f0 + 256 * f1 + 65536 * f2 + 16777216 * f3 + 4294967296 * f4 + 1099511627776 * f5 + 281474976710656 * f6 + 72057594037927936 * f7 := by
  show bits .or .u64 (bits .or .u64 (bits .or .u64 (bits .or .u64 (bits .or .u64 (bits .or .u64 (bits .or .u64 (bits .or .u64 0 (sShl .u64 (IntKind.wrap .u64 f0) (8 * ((0 : Nat) : Int)))) (sShl .u64 (IntKind.wrap .u64 f1) (8 * ((1 : Nat) : Int)))) (sShl .u64 (IntKind.wrap .u64 f2) (8 * ((2 : Nat) : Int)))) (sShl .u64 (IntKind.wrap .u64 f3) (8 * ((3 : Nat) : Int)))) (sShl .u64 (IntKind.wrap .u64 f4) (8 * ((4 : Nat) : Int)))) (sShl .u64 (IntKind.wrap .u64 f5) (8 * ((5 : Nat) : Int)))) (sShl .u64 (IntKind.wrap .u64 f6) (8 * ((6 : Nat) : Int)))) (sShl .u64 (IntKind.wrap .u64 f7) (8 * ((7 : Nat) : Int))) = _
  rw [p_put 0 f0 0 1 (by decide) (by omega) (by omega) (by omega) k0.1 k0.2 (by omega),
    p_put _ f1 1 256 (by decide) (by omega) (by omega) (by omega) k1.1 k1.2 (by omega),
    p_put _ f2 2 65536 (by decide) (by omega) (by omega) (by omega) k2.1 k2.2 (by omega),
    p_put _ f3 3 16777216 (by decide) (by omega) (by omega) (by omega) k3.1 k3.2 (by omega),
    p_put _ f4 4 4294967296 (by decide) (by omega) (by omega) (by omega) k4.1 k4.2 (by omega),
    p_put _ f5 5 1099511627776 (by decide) (by omega) (by omega) (by omega) k5.1 k5.2 (by omega),
    p_put _ f6 6 281474976710656 (by decide) (by omega) (by omega) (by omega) k6.1 k6.2 (by omega),
    p_put _ f7 7 72057594037927936 (by decide) (by omega) (by omega) (by omega) k7.1 k7.2 (by omega)]
  omega
theorem byE_val (x : Int) (i : Nat) (m : Int) (hm : m = 2 ^ (8 * i)) (hi : i < 8) : byE x i = x / m % 256 := by
  unfold byE sShr
  rw [show min (8 * (i : Int)).toNat IntKind.u64.bits = 8 * i by show min _ 64 = _; omega, ← hm, Int.fdiv_eq_ediv_of_nonneg _ (by rw [hm]; exact Int.le_of_lt (Int.pow_pos (by decide)))]
  rfl
/-- Eight bytes of a number that are the bytes of eight. -/
def bys8 (x : Int) : List Int := [byE x 0, byE x 1, byE x 2, byE x 3, byE x 4, byE x 5, byE x 6, byE x 7]
theorem bys16_eq (x y : Int) : bys16 x y = bys8 x ++ bys8 y := rfl
theorem bys8_val (x : Int) : bys8 x = [x % 256, x / 256 % 256, x / 65536 % 256, x / 16777216 % 256, x / 4294967296 % 256, x / 1099511627776 % 256, x / 281474976710656 % 256, x / 72057594037927936 % 256] := by
  unfold bys8
  rw [byE_val x 0 1 (by decide) (by omega), byE_val x 1 256 (by decide) (by omega), byE_val x 2 65536 (by decide) (by omega), byE_val x 3 16777216 (by decide) (by omega), byE_val x 4 4294967296 (by decide) (by omega), byE_val x 5 1099511627776 (by decide) (by omega), byE_val x 6 281474976710656 (by decide) (by omega), byE_val x 7 72057594037927936 (by decide) (by omega), Int.ediv_one]
theorem bys8_w8 (f0 f1 f2 f3 f4 f5 f6 f7 : Int) (r : List Int) (k0 : 0 ≤ f0 ∧ f0 < 256) (k1 : 0 ≤ f1 ∧ f1 < 256) (k2 : 0 ≤ f2 ∧ f2 < 256) (k3 : 0 ≤ f3 ∧ f3 < 256) (k4 : 0 ≤ f4 ∧ f4 < 256) (k5 : 0 ≤ f5 ∧ f5 < 256) (k6 : 0 ≤ f6 ∧ f6 < 256) (k7 : 0 ≤ f7 ∧ f7 < 256) :
    bys8 (w8 (f0 :: f1 :: f2 :: f3 :: f4 :: f5 :: f6 :: f7 :: r)) = [f0, f1, f2, f3, f4, f5, f6, f7] := by
  rw [bys8_val, w8_val f0 f1 f2 f3 f4 f5 f6 f7 r k0 k1 k2 k3 k4 k5 k6 k7]
  congr 1
  · omega
  congr 1
  · omega
  congr 1
  · omega
  congr 1
  · omega
  congr 1
  · omega
  congr 1
  · omega
  congr 1
  · omega
  congr 1
  omega
end Go.Proofs.Ythlleheeghiljaa
namespace Go.Proofs.Ythlleheeghiljaa
open Go.RowKit
set_option maxRecDepth 100000

theorem pow_at (i : Nat) : (256 : Int) ^ (i + 1) = 256 ^ i * 256 := Int.pow_succ ..
/-- What is carried to the next byte. -/
def carr (X Y : Int) (i : Nat) : Int := (X % 256 ^ i + Y % 256 ^ i) / 256 ^ i
theorem emod_256 (X m : Int) (hm : 0 < m) : X % (m * 256) = m * (X / m % 256) + X % m := by
  have h1 := Int.mul_ediv_add_emod X m
  have h2 := Int.mul_ediv_add_emod (X / m) 256
  have h3 := Int.emod_nonneg X (show m ≠ 0 by omega)
  have h4 := Int.emod_lt_of_pos X hm
  have h5 : 0 ≤ X / m % 256 ∧ X / m % 256 < 256 := by omega
  have h6 : X = (m * (X / m % 256) + X % m) + m * 256 * (X / m / 256) := by
    have : m * (X / m) = m * 256 * (X / m / 256) + m * (X / m % 256) := by
      conv => lhs; rw [← h2]
      rw [Int.mul_add, Int.mul_assoc]
    omega
  conv => lhs; rw [h6]
  rw [Int.add_mul_emod_self_left]
  refine Int.emod_eq_of_lt ?_ ?_
  · have := Int.mul_nonneg (Int.le_of_lt hm) h5.1
    omega
  · have : m * (X / m % 256) ≤ m * 255 := Int.mul_le_mul_of_nonneg_left (by omega) (Int.le_of_lt hm)
    omega
theorem carr_step (X Y : Int) (i : Nat) : carr X Y (i + 1) = (X / 256 ^ i % 256 + Y / 256 ^ i % 256 + carr X Y i) / 256 := by
  have hm : (0 : Int) < 256 ^ i := Int.pow_pos (by decide)
  unfold carr
  rw [pow_at]
  generalize (256 : Int) ^ i = m at hm ⊢
  have ed : ∀ a : Int, a / (m * 256) = a / m / 256 := fun a => by
    first | exact (Int.ediv_ediv_of_nonneg (Int.le_of_lt hm)).symm | (rw [Int.ediv_ediv, if_neg (by omega), Int.sub_zero])
  rw [emod_256 X m hm, emod_256 Y m hm, ed, show m * (X / m % 256) + X % m + (m * (Y / m % 256) + Y % m) = (X % m + Y % m) + m * (X / m % 256 + Y / m % 256) by rw [Int.mul_add]; omega, Int.add_mul_ediv_left _ _ (by omega)]
  congr 1
  omega
theorem carr_at (X Y : Int) (i : Nat) : (X + Y) / 256 ^ i % 256 = (X / 256 ^ i % 256 + Y / 256 ^ i % 256 + carr X Y i) % 256 := by
  have hm : (0 : Int) < 256 ^ i := Int.pow_pos (by decide)
  unfold carr
  generalize (256 : Int) ^ i = m at hm ⊢
  have e : X + Y = (X % m + Y % m) + m * (X / m + Y / m) := by
    have h1 := Int.mul_ediv_add_emod X m
    have h2 := Int.mul_ediv_add_emod Y m
    rw [Int.mul_add]
    omega
  conv => lhs; rw [e]
  rw [Int.add_mul_ediv_left _ _ (by omega)]
  omega
theorem carr_zero (X Y : Int) : carr X Y 0 = 0 := by unfold carr; rw [Int.pow_zero]; omega
theorem bys16_at (x y : Int) (i : Nat) (hi : i < 16) (hx : 0 ≤ x ∧ x < 18446744073709551616) : (bys16 x y).getD i 0 = (x + 18446744073709551616 * y) / 256 ^ i % 256 := by
  rw [bys16_eq, bys8_val, bys8_val]
  have : i = 0 ∨ i = 1 ∨ i = 2 ∨ i = 3 ∨ i = 4 ∨ i = 5 ∨ i = 6 ∨ i = 7 ∨ i = 8 ∨ i = 9 ∨ i = 10 ∨ i = 11 ∨ i = 12 ∨ i = 13 ∨ i = 14 ∨ i = 15 := by omega
  rcases this with rfl | rfl | rfl | rfl | rfl | rfl | rfl | rfl | rfl | rfl | rfl | rfl | rfl | rfl | rfl | rfl
  · show x % 256 = (x + 18446744073709551616 * y) / 1 % 256; omega
  · show x / 256 % 256 = (x + 18446744073709551616 * y) / 256 % 256; omega
  · show x / 65536 % 256 = (x + 18446744073709551616 * y) / 65536 % 256; omega
  · show x / 16777216 % 256 = (x + 18446744073709551616 * y) / 16777216 % 256; omega
  · show x / 4294967296 % 256 = (x + 18446744073709551616 * y) / 4294967296 % 256; omega
  · show x / 1099511627776 % 256 = (x + 18446744073709551616 * y) / 1099511627776 % 256; omega
  · show x / 281474976710656 % 256 = (x + 18446744073709551616 * y) / 281474976710656 % 256; omega
  · show x / 72057594037927936 % 256 = (x + 18446744073709551616 * y) / 72057594037927936 % 256; omega
  · show y % 256 = (x + 18446744073709551616 * y) / 18446744073709551616 % 256; omega
  · show y / 256 % 256 = (x + 18446744073709551616 * y) / 4722366482869645213696 % 256; omega
  · show y / 65536 % 256 = (x + 18446744073709551616 * y) / 1208925819614629174706176 % 256; omega
  · show y / 16777216 % 256 = (x + 18446744073709551616 * y) / 309485009821345068724781056 % 256; omega
  · show y / 4294967296 % 256 = (x + 18446744073709551616 * y) / 79228162514264337593543950336 % 256; omega
  · show y / 1099511627776 % 256 = (x + 18446744073709551616 * y) / 20282409603651670423947251286016 % 256; omega
  · show y / 281474976710656 % 256 = (x + 18446744073709551616 * y) / 5192296858534827628530496329220096 % 256; omega
  · show y / 72057594037927936 % 256 = (x + 18446744073709551616 * y) / 1329227995784915872903807060280344576 % 256; omega
theorem emod_cut (X : Int) (i : Nat) (hi : i < 16) : X % 340282366920938463463374607431768211456 / 256 ^ i % 256 = X / 256 ^ i % 256 := by
  have hm : (0 : Int) < 256 ^ i := Int.pow_pos (by decide)
  have hp : (340282366920938463463374607431768211456 : Int) = 256 ^ i * 256 * 256 ^ (15 - i) := by
    rw [Int.mul_assoc, Int.mul_comm 256, ← Int.pow_succ, ← Int.pow_add, show i + (15 - i + 1) = 16 by omega]; rfl
  have e := Int.mul_ediv_add_emod X 340282366920938463463374607431768211456
  have e2 : X = X % 340282366920938463463374607431768211456 + 256 ^ i * (256 * (256 ^ (15 - i) * (X / 340282366920938463463374607431768211456))) := by
    rw [← Int.mul_assoc, ← Int.mul_assoc, ← hp]; omega
  conv => rhs; rw [e2]
  rw [Int.add_mul_ediv_left _ _ (by omega)]
  generalize 256 ^ (15 - i) * (X / 340282366920938463463374607431768211456) = q
  generalize X % 340282366920938463463374607431768211456 / 256 ^ i = p
  omega
/-- A list of bytes as two words. -/
theorem bys_words (s : List Int) (hs : s.length = 16) (hb : Bys s) : bys16 (w8 s) (w8 (s.drop 8)) = s := by
  match s, hs, hb with
  | [s0, s1, s2, s3, s4, s5, s6, s7, s8, s9, sa, sb, sc, sd, se, sf], _, hb =>
    have k : ∀ x ∈ [s0, s1, s2, s3, s4, s5, s6, s7, s8, s9, sa, sb, sc, sd, se, sf], 0 ≤ x ∧ x < 256 := hb
    rw [bys16_eq]
    show bys8 (w8 [s0, s1, s2, s3, s4, s5, s6, s7, s8, s9, sa, sb, sc, sd, se, sf]) ++ bys8 (w8 [s8, s9, sa, sb, sc, sd, se, sf]) = _
    rw [bys8_w8 _ _ _ _ _ _ _ _ _ (k _ (by simp)) (k _ (by simp)) (k _ (by simp)) (k _ (by simp)) (k _ (by simp)) (k _ (by simp)) (k _ (by simp)) (k _ (by simp)),
      bys8_w8 _ _ _ _ _ _ _ _ _ (k _ (by simp)) (k _ (by simp)) (k _ (by simp)) (k _ (by simp)) (k _ (by simp)) (k _ (by simp)) (k _ (by simp)) (k _ (by simp))]
    rfl
/-- The tag with another half of a key: byte by byte, with what is carried. -/
theorem tag2_other (lo hi : Int) (s z : List Int) (h0 : 0 ≤ lo ∧ lo < 18446744073709551616) (h1 : 0 ≤ hi ∧ hi < 18446744073709551616) (hs : s.length = 16) (hb : Bys s) (hz : w8 z = 0) (hz8 : w8 (z.drop 8) = 0) :
    ∃ X Y : Int, ∀ i, i < 16 → (tag2 lo hi z).getD i 0 = X / 256 ^ i % 256 ∧ s.getD i 0 = Y / 256 ^ i % 256 ∧ (tag2 lo hi s).getD i 0 = (X + Y) / 256 ^ i % 256 := by
  have k1 := w8_in s
  have k2 := w8_in (s.drop 8)
  refine ⟨lo + 18446744073709551616 * hi, w8 s + 18446744073709551616 * w8 (s.drop 8), fun i hi' => ⟨?_, ?_, ?_⟩⟩
  · rw [tag2, hz, hz8, show (lo + 0 + 0) % 18446744073709551616 = lo by omega, show (hi + 0 + (lo + 0 + 0) / 18446744073709551616) % 18446744073709551616 = hi by omega, bys16_at _ _ _ hi' h0]
  · conv => lhs; rw [← bys_words s hs hb]
    exact bys16_at _ _ _ hi' k1
  · rw [tag2, bys16_at _ _ _ hi' (by omega), ← emod_cut (lo + 18446744073709551616 * hi + (w8 s + 18446744073709551616 * w8 (s.drop 8))) i hi']
    congr 2
    omega
end Go.Proofs.Ythlleheeghiljaa
