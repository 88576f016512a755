/-
  poly: the bytes of a sum of numbers, and what is carried.
-/
import Derived.Test.YtcbnbhadanldpaaP6
namespace Go.Proofs.Ytcbnbhadanldpaa
open Go.RowKit
set_option maxRecDepth 100000

theorem pow_at (i : Nat) : (256 : Int) ^ (i + 1) = 256 ^ i * 256 := Int.pow_succ ..
/-- What is carried to the next byte. -/
def carr (X Y : Int) (i : Nat) : Int := (X % 256 ^ i + Y % 256 ^ i) / 256 ^ i
theorem emod_256 (X m : Int) (hm : 0 < m) : X % (m * 256) = m * (X / m % 256) + X % m := by
  have h1 := Int.mul_ediv_add_emod X m
  have h2 := Int.mul_ediv_add_emod (X / m) 256
  have h3 := Int.emod_nonneg X (show m ≠ 0 by omega)
  have h4 := Int.emod_lt_of_pos X hm
  have h5 : 0 ≤ X / m % 256 ∧ X / m % 256 < 256 := by omega
  have h6 : X = (m * (X / m % 256) + X % m) + m * 256 * (X / m / 256) := by
    have : m * (X / m) = m * 256 * (X / m / 256) + m * (X / m % 256) := by
      conv => lhs; rw [← h2]
      rw [Int.mul_add, Int.mul_assoc]
    omega
  conv => lhs; rw [h6]
  rw [Int.add_mul_emod_self_left]
  refine Int.emod_eq_of_lt ?_ ?_
  · have := Int.mul_nonneg (Int.le_of_lt hm) h5.1
    omega
  · have : m * (X / m % 256) ≤ m * 255 := Int.mul_le_mul_of_nonneg_left (by omega) (Int.le_of_lt hm)
    omega
theorem carr_step (X Y : Int) (i : Nat) : carr X Y (i + 1) = (X / 256 ^ i % 256 + Y / 256 ^ i % 256 + carr X Y i) / 256 := by
  have hm : (0 : Int) < 256 ^ i := Int.pow_pos (by decide)
  unfold carr
  rw [pow_at]
  generalize (256 : Int) ^ i = m at hm ⊢
  have ed : ∀ a : Int, a / (m * 256) = a / m / 256 := fun a => by
    first | exact (Int.ediv_ediv_of_nonneg (Int.le_of_lt hm)).symm | (rw [Int.ediv_ediv, if_neg (by omega), Int.sub_zero])
  rw [emod_256 X m hm, emod_256 Y m hm, ed, show m * (X / m % 256) + X % m + (m * (Y / m % 256) + Y % m) = (X % m + Y % m) + m * (X / m % 256 + Y / m % 256) by rw [Int.mul_add]; omega, Int.add_mul_ediv_left _ _ (by omega)]
  congr 1
  omega
theorem carr_at (X Y : Int) (i : Nat) : (X + Y) / 256 ^ i % 256 = (X / 256 ^ i % 256 + Y / 256 ^ i % 256 + carr X Y i) % 256 := by
  have hm : (0 : Int) < 256 ^ i := Int.pow_pos (by decide)
  unfold carr
  generalize (256 : Int) ^ i = m at hm ⊢
  have e : X + Y = (X % m + Y % m) + m * (X / m + Y / m) := by
    have h1 := Int.mul_ediv_add_emod X m
    have h2 := Int.mul_ediv_add_emod Y m
    rw [Int.mul_add]
    omega
  conv => lhs; rw [e]
  rw [Int.add_mul_ediv_left _ _ (by omega)]
  omega
theorem carr_zero (X Y : Int) : carr X Y 0 = 0 := by unfold carr; rw [Int.pow_zero]; omega
theorem bys16_at (x y : Int) (i : Nat) (hi : i < 16) (hx : 0 ≤ x ∧ x < 18446744073709551616) : (bys16 x y).getD i 0 = (x + 18446744073709551616 * y) / 256 ^ i % 256 := by
  rw [bys16_eq, bys8_val, bys8_val]
  have : i = 0 ∨ i = 1 ∨ i = 2 ∨ i = 3 ∨ i = 4 ∨ i = 5 ∨ i = 6 ∨ i = 7 ∨ i = 8 ∨ i = 9 ∨ i = 10 ∨ i = 11 ∨ i = 12 ∨ i = 13 ∨ i = 14 ∨ i = 15 := by omega
  rcases this with rfl | rfl | rfl | rfl | rfl | rfl | rfl | rfl | rfl | rfl | rfl | rfl | rfl | rfl | rfl | rfl
  · show x % 256 = (x + 18446744073709551616 * y) / 1 % 256; omega
  · show x / 256 % 256 = (x + 18446744073709551616 * y) / 256 % 256; omega
  · show x / 65536 % 256 = (x + 18446744073709551616 * y) / 65536 % 256; omega
  · show x / 16777216 % 256 = (x + 18446744073709551616 * y) / 16777216 % 256; omega
  · show x / 4294967296 % 256 = (x + 18446744073709551616 * y) / 4294967296 % 256; omega
  · show x / 1099511627776 % 256 = (x + 18446744073709551616 * y) / 1099511627776 % 256; omega
  · show x / 281474976710656 % 256 = (x + 18446744073709551616 * y) / 281474976710656 % 256; omega
  · show x / 72057594037927936 % 256 = (x + 18446744073709551616 * y) / 72057594037927936 % 256; omega
  · show y % 256 = (x + 18446744073709551616 * y) / 18446744073709551616 % 256; omega
  · show y / 256 % 256 = (x + 18446744073709551616 * y) / 4722366482869645213696 % 256; omega
  · show y / 65536 % 256 = (x + 18446744073709551616 * y) / 1208925819614629174706176 % 256; omega
  · show y / 16777216 % 256 = (x + 18446744073709551616 * y) / 309485009821345068724781056 % 256; omega
  · show y / 4294967296 % 256 = (x + 18446744073709551616 * y) / 79228162514264337593543950336 % 256; omega
  · show y / 1099511627776 % 256 = (x + 18446744073709551616 * y) / 20282409603651670423947251286016 % 256; omega
  · show y / 281474976710656 % 256 = (x + 18446744073709551616 * y) / 5192296858534827628530496329220096 % 256; omega
  · show y / 72057594037927936 % 256 = (x + 18446744073709551616 * y) / 1329227995784915872903807060280344576 % 256; omega
theorem emod_cut (X : Int) (i : Nat) (hi : i < 16) : X % 340282366920938463463374607431768211456 / 256 ^ i % 256 = X / 256 ^ i % 256 := by
  have hm : (0 : Int) < 256 ^ i := Int.pow_pos (by decide)
  have hp : (340282366920938463463374607431768211456 : Int) = 256 ^ i * 256 * 256 ^ (15 - i) := by
    rw [Int.mul_assoc, Int.mul_comm 256, ← Int.pow_succ, ← Int.pow_add, show i + (15 - i + 1) = 16 by omega]; rfl
  have e := Int.mul_ediv_add_emod X 340282366920938463463374607431768211456
  have e2 : X = X % 340282366920938463463374607431768211456 + 256 ^ i * (256 * (256 ^ (15 - i) * (X / 340282366920938463463374607431768211456))) := by
    rw [← Int.mul_assoc, ← Int.mul_assoc, ← hp]; omega
  conv => rhs; rw [e2]
  rw [Int.add_mul_ediv_left _ _ (by omega)]
  generalize 256 ^ (15 - i) * (X / 340282366920938463463374607431768211456) = q
  generalize X % 340282366920938463463374607431768211456 / 256 ^ i = p
  omega
/-- A list of bytes as two words. -/
theorem bys_words (s : List Int) (hs : s.length = 16) (hb : Bys s) : bys16 (w8 s) (w8 (s.drop 8)) = s := by
  match s, hs, hb with
  | [s0, s1, s2, s3, s4, s5, s6, s7, s8, s9, sa, sb, sc, sd, se, sf], _, hb =>
    have k : ∀ x ∈ [s0, s1, s2, s3, s4, s5, s6, s7, s8, s9, sa, sb, sc, sd, se, sf], 0 ≤ x ∧ x < 256 := hb
    rw [bys16_eq]
    show bys8 (w8 [s0, s1, s2, s3, s4, s5, s6, s7, s8, s9, sa, sb, sc, sd, se, sf]) ++ bys8 (w8 [s8, s9, sa, sb, sc, sd, se, sf]) = _
    rw [bys8_w8 _ _ _ _ _ _ _ _ _ (k _ (by simp)) (k _ (by simp)) (k _ (by simp)) (k _ (by simp)) (k _ (by simp)) (k _ (by simp)) (k _ (by simp)) (k _ (by simp)),
      bys8_w8 _ _ _ _ _ _ _ _ _ (k _ (by simp)) (k _ (by simp)) (k _ (by simp)) (k _ (by simp)) (k _ (by simp)) (k _ (by simp)) (k _ (by simp)) (k _ (by simp))]
    rfl
/-- The tag with another half of a key: byte by byte, with what is carried. -/
theorem tag2_other (lo hi : Int) (s z : List Int) (h0 : 0 ≤ lo ∧ lo < 18446744073709551616) (h1 : 0 ≤ hi ∧ hi < 18446744073709551616) (hs : s.length = 16) (hb : Bys s) (hz : w8 z = 0) (hz8 : w8 (z.drop 8) = 0) :
    ∃ X Y : Int, ∀ i, i < 16 → (tag2 lo hi z).getD i 0 = X / 256 ^ i % 256 ∧ s.getD i 0 = Y / 256 ^ i % 256 ∧ (tag2 lo hi s).getD i 0 = (X + Y) / 256 ^ i % 256 := by
  have k1 := w8_in s
  have k2 := w8_in (s.drop 8)
  refine ⟨lo + 18446744073709551616 * hi, w8 s + 18446744073709551616 * w8 (s.drop 8), fun i hi' => ⟨?_, ?_, ?_⟩⟩
  · rw [tag2, hz, hz8, show (lo + 0 + 0) % 18446744073709551616 = lo by omega, show (hi + 0 + (lo + 0 + 0) / 18446744073709551616) % 18446744073709551616 = hi by omega, bys16_at _ _ _ hi' h0]
  · conv => lhs; rw [← bys_words s hs hb]
    exact bys16_at _ _ _ hi' k1
  · rw [tag2, bys16_at _ _ _ hi' (by omega), ← emod_cut (lo + 18446744073709551616 * hi + (w8 s + 18446744073709551616 * w8 (s.drop 8))) i hi']
    congr 2
    omega
end Go.Proofs.Ytcbnbhadanldpaa
